package play_test

import (
	"bytes"
	"fmt"
	"math/rand/v2"
	"slices"
	"strings"
	"testing"

	"lien/api"
	"lien/books"
	"lien/disk"
	"lien/file"
	"lien/model"
	"lien/pick"
	"lien/play"
	"lien/space"
	"lien/store"
	"lien/super"
	"lien/wire"
	"lien/world"
)

// The tests of this file hold the whole to what the document's section Promises claims of it (P1 to P6), and to its ten examples.

// fresh is a new world.
func fresh(t *testing.T, sectors int, c api.Conf) *world.World {
	t.Helper()
	w, e := world.New(api.Script{Sectors: sectors, Conf: c})
	if e != api.OK {
		t.Fatal(e)
	}
	return w
}

// doing does deeds, and fails if one tells an error.
func doing(t *testing.T, w *world.World, l ...api.Deed) {
	t.Helper()
	for _, d := range l {
		if e := w.Do(d); e != api.OK {
			t.Fatal(d, e)
		}
	}
}

// of is a deed of a kind, and a number.
func of(kind api.DeedKind, a int) api.Deed { return api.Deed{Kind: kind, A: a} }

// grant, transfer and reads are deeds of requests.
func grant(key string, n int) api.Deed { return asks(api.Request{Kind: api.QGrant, Key: key, N: n}) }
func transfer(key string, peer, n int) api.Deed {
	return asks(api.Request{Kind: api.QSend, Key: key, Peer: peer, N: n})
}
func reads(key string) api.Deed { return asks(api.Request{Kind: api.QRead, Key: key}) }

// told fails, if the last things that were told are not these.
func told(t *testing.T, w *world.World, want ...api.Answer) {
	t.Helper()
	l := w.Told()
	if len(l) < len(want) || !slices.Equal(l[len(l)-len(want):], want) {
		t.Error(l, want)
	}
}

// totals fails, if these are not the totals.
func totals(t *testing.T, w *world.World, want ...api.Total) {
	t.Helper()
	if l, e := w.Totals(); e != api.OK || !slices.Equal(l, want) {
		t.Error(l, e, want)
	}
}

// asked is the request that a deed brings to the engine, as bytes; false: it brings none.
func asked(w *world.World, d api.Deed) ([]byte, bool) {
	if d.Kind == api.DAsk {
		return []byte(d.Text), true
	}
	l := w.Mails()
	if d.Kind != api.DCome || d.A < 0 || d.A >= len(l) || l[d.A].To != 0 {
		return nil, false
	}
	m, e := wire.ReadMsg([]byte(l[d.A].Text))
	if e != api.OK {
		return nil, false
	}
	r := api.Request{Kind: api.QAcked, Peer: l[d.A].From, Seq: m.Seq}
	if m.Kind == api.MTransfer {
		r = api.Request{Kind: api.QTake, Peer: l[d.A].From, Seq: m.Seq, Key: m.Key, N: m.N}
	}
	b, e := wire.Bytes(r)
	return b, e == api.OK
}

// noRoom tells whether a reply may be that of a store without room.
func noRoom(e api.Errno) bool {
	return slices.Contains([]api.Errno{api.ErrSpace, api.ErrFull, api.ErrEdit, api.ErrLong, api.ErrMany}, e)
}

// sameRows fails, if a world's rows are not a model's.
func sameRows(t *testing.T, w *world.World, m *model.Model) {
	t.Helper()
	l, e := w.Rows()
	if e != api.OK || !slices.EqualFunc(l, m.Rows(), func(a, b api.KV) bool { return a.Key == b.Key && bytes.Equal(a.Val, b.Val) }) {
		t.Fatal(e, l, m.Rows())
	}
}

// busy is a deed by chance, of one to whom neither power nor rot does anything.
func busy(r *rand.Rand, w *world.World) api.Deed {
	key := []string{"a", "b", "cc", "d"}[r.IntN(4)]
	switch r.IntN(20) {
	case 0, 1, 2:
		return grant(key, 10+r.IntN(30))
	case 3:
		return asks(api.Request{Kind: []api.AskKind{api.QSpend, api.QQuota}[r.IntN(2)], Key: key, N: 1 + r.IntN(40)})
	case 4, 5:
		return asks(api.Request{Kind: api.QReserve, Key: key, ID: r.IntN(6), N: 1 + r.IntN(9), Until: r.IntN(40)})
	case 6:
		return asks(api.Request{Kind: []api.AskKind{api.QConfirm, api.QCancel}[r.IntN(2)], Key: key, ID: r.IntN(6)})
	case 7:
		return asks([]api.Request{{Kind: api.QExpire, Key: key}, {Kind: api.QClock, N: r.IntN(40)}, {Kind: api.QRead, Key: key}}[r.IntN(3)])
	case 8, 9:
		return transfer(key, 1+r.IntN(3), 1+r.IntN(5))
	case 10:
		return api.Deed{Kind: api.DAsk, Text: []string{"", "\x01", "\x0d\x01a", "\x01\x01a\x05\x05"}[r.IntN(4)]}
	case 11:
		return api.Deed{Kind: api.DOffer, A: 1 + r.IntN(3), B: 1 + r.IntN(9), Text: key}
	case 12:
		return of([]api.DeedKind{api.DAgain, api.DResend}[r.IntN(2)], 1+r.IntN(3))
	case 13, 14, 15:
		return of(api.DCome, r.IntN(len(w.Mails())+1))
	case 16:
		return of([]api.DeedKind{api.DLose, api.DTwin}[r.IntN(2)], r.IntN(len(w.Mails())+1))
	}
	return of([]api.DeedKind{api.DSync, api.DTick, api.DTick, api.DFlush, api.DCompact, api.DScrub}[r.IntN(6)], 0)
}

func TestWholeP1TheModel(t *testing.T) {
	r := rand.New(rand.NewPCG(1, 1))
	full := 0
	for range 25 {
		w, m := fresh(t, 60+r.IntN(600), small()), model.New()
		var waits [][]byte
		since := 0
		check := func() {
			for _, a := range w.Told()[since:] {
				b := waits[0]
				waits, since = waits[1:], since+1
				want := api.Reply{E: api.ErrWire}
				ahead := m.Fork()
				if q, e := wire.Read(b); e == api.OK {
					want, _ = m.Do(q)
				}
				if a.Reply != want && want.E == api.OK && noRoom(a.Reply.E) {
					m, want = ahead, a.Reply
					full++
				}
				if a.Reply != want {
					t.Fatal(b, a, want)
				}
			}
		}
		for range 300 {
			d := busy(r, w)
			if b, ok := asked(w, d); ok {
				waits = append(waits, b)
			}
			w.Do(d)
			check()
		}
		doing(t, w, of(api.DSync, 0))
		check()
		if len(waits) > 0 || !w.Open() {
			t.Fatal("all is told")
		}
		sameRows(t, w, m)
	}
	if full == 0 {
		t.Error("no disk was full")
	}
}

func TestWholeP1WhereUpkeepComesChangesNothing(t *testing.T) {
	r := rand.New(rand.NewPCG(1, 2))
	for range 10 {
		var deeds []api.Deed
		plan := fresh(t, 1200, small())
		for len(deeds) < 120 {
			if d := busy(r, plan); d.Kind == api.DAsk {
				deeds = append(deeds, d)
			}
		}
		first := ""
		for range 4 {
			w := fresh(t, 2000, small())
			for _, d := range deeds {
				doing(t, w, d)
				for r.IntN(3) == 0 {
					w.Do(of([]api.DeedKind{api.DSync, api.DTick, api.DFlush, api.DCompact, api.DScrub}[r.IntN(5)], 0))
				}
			}
			doing(t, w, of(api.DSync, 0))
			rows, e := w.Rows()
			all := fmt.Sprint(rows, e)
			for _, a := range w.Told() {
				all += fmt.Sprint(a.Reply)
			}
			if first == "" {
				first = all
			}
			if all != first || len(w.Told()) != len(deeds) {
				t.Fatal(all, first)
			}
		}
	}
}

// fates is what becomes of loose sectors, by chance.
func fates(r *rand.Rand, loose []api.Loose) []api.Fate {
	var out []api.Fate
	for _, l := range loose {
		f := api.Fate{Keep: r.IntN(l.Many + 1)}
		if f.Keep < l.Many && r.IntN(3) == 0 {
			f.Cut = r.IntN(128)
		}
		out = append(out, f)
	}
	return out
}

// life is what a world did, as far as it is kept: behind each number of the store's the model, and the lines that came of it.
type life struct {
	states []*model.Model
	lines  [][]api.Line
}

// cut lets go what is behind a number.
func (l *life) cut(n int) {
	l.states, l.lines = l.states[:n+1], l.lines[:n+1]
}

// step does a deed to a world, and keeps what came of it.
func (l *life) step(t *testing.T, w *world.World, d api.Deed) {
	t.Helper()
	b, ok := asked(w, d)
	n := w.Seq()
	w.Do(d)
	if !ok || !w.Open() || w.Seq() == n {
		return
	}
	q, e := wire.Read(b)
	m := l.states[n].Fork()
	lines, e2 := model.Lines(m, q)
	p, _ := m.Do(q)
	if e != api.OK || e2 != api.OK || p.E != api.OK || w.Seq() != n+1 {
		t.Fatal(q, p, w.Seq(), n)
	}
	l.states, l.lines = append(l.states, m), append(l.lines, lines)
}

func TestWholeP2AndP3WhereverThePowerGoes(t *testing.T) {
	r := rand.New(rand.NewPCG(2, 3))
	lost, got, crashes := 0, 0, 0
	for range 40 {
		w := fresh(t, 1200, small())
		l := &life{states: []*model.Model{model.New()}, lines: [][]api.Line{nil}}
		numbers := map[int]int{} // of each deed that asked, for which number its reply waits
		sent := map[string]string{}
		durable, since := 0, 0
		for i := range 350 {
			d := busy(r, w)
			switch {
			case w.Down():
				d = api.Deed{Kind: api.DCrash, Fates: fates(r, w.Loose())}
			case r.IntN(40) == 0:
				d = of(api.DFuse, r.IntN(40))
			}
			l.step(t, w, d)
			numbers[i] = w.Seq()
			for _, a := range w.Told()[since:] {
				since++
				durable = max(durable, numbers[a.I])
			}
			for _, x := range w.Mails() {
				if m, e := wire.ReadMsg([]byte(x.Text)); e == api.OK && m.Kind == api.MTransfer && x.From == 0 {
					at := fmt.Sprint(x.To, m.Seq)
					if was, ok := sent[at]; ok && was != x.Text {
						t.Fatal("a transfer that is sent again is the same", x)
					}
					sent[at] = x.Text
				}
			}
			if d.Kind == api.DCrash && w.Open() {
				crashes++
				n := w.Seq()
				if n < durable || n >= len(l.states) {
					t.Fatal(n, durable, len(l.states))
				}
				lost += len(l.states) - 1 - n
				l.cut(n)
				sameRows(t, w, l.states[n])
				conserved(t, w, l)
			}
		}
		if w.Down() {
			doing(t, w, api.Deed{Kind: api.DCrash})
			l.cut(w.Seq())
		}
		sameRows(t, w, l.states[w.Seq()])
		conserved(t, w, l)
		for n := 1; n <= api.MaxPeer; n++ {
			for _, m := range w.Got(n) {
				got++
				if b, _ := wire.MsgBytes(m); sent[fmt.Sprint(n, m.Seq)] != string(b) {
					t.Fatal("what a peer got was sent", m)
				}
			}
		}
	}
	if lost == 0 || got == 0 || crashes < 40 {
		t.Error(lost, got, crashes)
	}
}

// conserved fails, if of a name more or less is there than came and went, or a transfer was credited twice.
func conserved(t *testing.T, w *world.World, l *life) {
	t.Helper()
	lines := slices.Concat(l.lines...)
	has, e := w.Totals()
	want, _, e2 := books.Sum(lines...)
	if e != api.OK || e2 != api.OK || !books.Same(has, want) {
		t.Fatal(has, want, e, e2)
	}
	for _, x := range has {
		if came, went := books.Flow(x.Key, lines...); x.Free+x.Held+x.Out != came-went {
			t.Fatal(x, came, went)
		}
	}
	credited := 0
	for _, x := range lines {
		if x.Kind == api.LCredit {
			credited += x.N
		}
	}
	offered := 0
	for n := 1; n <= api.MaxPeer; n++ {
		for _, m := range w.Sent(n) {
			offered += m.N
		}
	}
	if credited > offered {
		t.Fatal("credited more than peers sent", credited, offered)
	}
}

func TestWholeP3WhatAPeerWasToldOfCame(t *testing.T) {
	r := rand.New(rand.NewPCG(3, 3))
	acked := 0
	for range 30 {
		w := fresh(t, 1200, small())
		acks := map[string]int{}
		for range 300 {
			d := busy(r, w)
			if w.Down() {
				d = api.Deed{Kind: api.DCrash, Fates: fates(r, w.Loose())}
			} else if r.IntN(40) == 0 {
				d = of(api.DFuse, r.IntN(40))
			}
			w.Do(d)
			for _, x := range w.Mails() {
				if m, e := wire.ReadMsg([]byte(x.Text)); e == api.OK && x.From == 0 && m.Kind == api.MAck {
					acks[fmt.Sprint(x.To, m.Seq)] = m.Seq
				}
			}
		}
		doing(t, w, api.Deed{Kind: api.DCrash})
		for at := range acks {
			var peer, seq int
			fmt.Sscan(at, &peer, &seq)
			b, _ := wire.Bytes(api.Request{Kind: api.QTake, Peer: peer, Seq: seq, Key: "z", N: 1})
			n := len(w.Told())
			doing(t, w, api.Deed{Kind: api.DAsk, Text: string(b)}, of(api.DSync, 0))
			if l := w.Told()[n:]; len(l) == 0 || l[len(l)-1].Reply.E != api.ErrKnown {
				t.Fatal("an ack was sent of what did not come", at, l)
			}
			acked++
		}
	}
	if acked == 0 {
		t.Error("no acks")
	}
}

// copies are the sectors of both copies of each frame of a world's logs and tables, and of its superblocks.
func copies(w *world.World) [][2]int {
	l := [][2]int{{0, 1}, {2, 3}}
	add := func(p api.Place, n int) {
		for i := range n {
			a, b, _ := file.Sectors(p, i)
			l = append(l, [2]int{a, b})
		}
	}
	v := w.Version()
	for _, x := range v.Logs {
		add(x.Place, file.Frames(x.Place))
	}
	for _, x := range v.Tables {
		add(x.Place, (x.Size+107)/108)
	}
	return l
}

func TestWholeP4OneCopyOfEach(t *testing.T) {
	r := rand.New(rand.NewPCG(4, 4))
	for range 15 {
		w := fresh(t, 1200, small())
		l := &life{states: []*model.Model{model.New()}, lines: [][]api.Line{nil}}
		for range 12 {
			for range 25 {
				l.step(t, w, busy(r, w))
			}
			doing(t, w, of(api.DSync, 0))
			for _, x := range copies(w) {
				if r.IntN(2) == 0 {
					doing(t, w, api.Deed{Kind: api.DRot, A: x[r.IntN(2)], B: r.IntN(128), C: 1 + r.IntN(255)})
				}
			}
			if r.IntN(2) == 0 {
				doing(t, w, api.Deed{Kind: api.DCrash})
			}
			sameRows(t, w, l.states[w.Seq()])
			doing(t, w, of(api.DScrub, 0))
			sameRows(t, w, l.states[w.Seq()])
		}
	}
}

func TestWholeP4RightOrAnError(t *testing.T) {
	r := rand.New(rand.NewPCG(4, 5))
	wrong, right := 0, 0
	for range 25 {
		w := fresh(t, 1200, small())
		l := &life{states: []*model.Model{model.New()}, lines: [][]api.Line{nil}}
		for range 150 {
			for range 2 {
				c := copies(w)
				x := c[2+r.IntN(len(c)-2)]
				doing(t, w, api.Deed{Kind: api.DRot, A: x[r.IntN(2)], B: r.IntN(128), C: 1 + r.IntN(255)})
			}
			l.step(t, w, busy(r, w))
			m := l.states[w.Seq()]
			key := []string{"a", "b", "cc", "d"}[r.IntN(4)]
			want, _ := m.Fork().Do(api.Request{Kind: api.QRead, Key: key})
			doing(t, w, reads(key))
			w.Do(of(api.DSync, 0))
			all := w.Told()
			if got := all[len(all)-1].Reply; got == want {
				right++
			} else if got != (api.Reply{E: api.ErrRot}) && got != (api.Reply{E: api.ErrTable}) {
				t.Fatal(key, got, want)
			} else {
				wrong++
			}
			if rows, e := w.Rows(); e == api.OK && len(rows) != len(m.Rows()) {
				t.Fatal(rows)
			}
		}
	}
	if wrong == 0 || right == 0 {
		t.Error(wrong, right)
	}
}

func TestWholeP5AtRest(t *testing.T) {
	r := rand.New(rand.NewPCG(5, 5))
	for range 20 {
		roomy := small()
		roomy.ManPairs = 4
		w := fresh(t, 3000, roomy)
		for range 250 {
			d := busy(r, w)
			if w.Down() {
				d = api.Deed{Kind: api.DCrash, Fates: fates(r, w.Loose())}
			} else if r.IntN(60) == 0 {
				d = of(api.DFuse, r.IntN(40))
			}
			w.Do(d)
		}
		w.Do(api.Deed{Kind: api.DCrash})
		for len(w.Mails()) > 0 {
			doing(t, w, of(api.DLose, 0))
		}
		for range 3 {
			for n := 1; n <= 3; n++ {
				doing(t, w, of(api.DResend, n), of(api.DAgain, n))
			}
			for range 300 {
				w.Do(of(api.DCome, 0))
				doing(t, w, of(api.DTick, 0))
			}
		}
		rows, _ := w.Rows()
		most := 3 + pick.Bound(w.Version()) + 3*(len(rows)+8)
		for range most {
			doing(t, w, of(api.DTick, 0))
		}
		if v := w.Version(); w.Waiting() > 0 || w.Durable() != w.Seq() || len(pick.Full(v)) > 0 || len(w.Mails()) > 0 {
			t.Fatal("not at rest", w.Waiting(), w.Durable(), w.Seq())
		}
		l, e := w.Totals()
		for _, x := range l {
			if e != api.OK || x.Out > 0 {
				t.Fatal("a transfer waits", x)
			}
		}
		for n := 1; n <= 3; n++ {
			doing(t, w, of(api.DAgain, n))
		}
		if len(w.Mails()) > 0 {
			t.Fatal("a peer's transfer waits")
		}
		before := w.Version()
		doing(t, w, of(api.DTick, 0), of(api.DTick, 0))
		if w.Version().Next != before.Next {
			t.Fatal("there is work still")
		}
	}
}

func TestWholeP6Again(t *testing.T) {
	r := rand.New(rand.NewPCG(6, 6))
	for range 15 {
		w := fresh(t, 1200, small())
		s := api.Script{Sectors: 1200, Conf: small()}
		for range 200 {
			d := busy(r, w)
			if w.Down() {
				d = api.Deed{Kind: api.DCrash, Fates: fates(r, w.Loose())}
			} else if r.IntN(40) == 0 {
				d = []api.Deed{of(api.DFuse, r.IntN(40)), {Kind: api.DRot, A: r.IntN(1200), B: r.IntN(128), C: r.IntN(256)}}[r.IntN(2)]
			}
			w.Do(d)
			s.Deeds = append(s.Deeds, d)
		}
		x, e := play.Print(s)
		one, two := play.Run(s), play.Run(s)
		three, _, e2 := play.Text(x)
		if e != api.OK || e2 != api.OK || one != two || one != three || strings.Count(one, "\n") < 200 {
			t.Fatal(e, e2)
		}
	}
}

func TestExample1(t *testing.T) {
	w := fresh(t, 516, small())
	doing(t, w, grant("a", 5))
	if w.Waiting() != 1 || len(w.Told()) > 0 {
		t.Error("the reply waits")
	}
	doing(t, w, of(api.DSync, 0))
	told(t, w, api.Answer{})
	totals(t, w, api.Total{Key: "a", Free: 5})
}

func TestExample2(t *testing.T) {
	w := fresh(t, 516, small())
	doing(t, w, grant("a", 5), api.Deed{Kind: api.DCrash}, reads("a"))
	told(t, w, api.Answer{I: 2, Reply: api.Reply{N: api.MaxTotal}})
	if len(w.Told()) != 1 {
		t.Error("it was not told")
	}
	totals(t, w)
}

func TestExample3(t *testing.T) {
	w := fresh(t, 516, small())
	doing(t, w, grant("a", 5), asks(api.Request{Kind: api.QReserve, Key: "a", ID: 1, N: 3, Until: 9}), asks(api.Request{Kind: api.QClock, N: 10}), asks(api.Request{Kind: api.QConfirm, Key: "a", ID: 1}), of(api.DSync, 0))
	told(t, w, api.Answer{I: 3, Reply: api.Reply{E: api.ErrLate}})
	totals(t, w, api.Total{Key: "a", Free: 2, Held: 3})
	doing(t, w, asks(api.Request{Kind: api.QExpire, Key: "a"}), of(api.DSync, 0))
	told(t, w, api.Answer{I: 5, Reply: api.Reply{N: 3}})
	totals(t, w, api.Total{Key: "a", Free: 5})
}

func TestExample4(t *testing.T) {
	w := fresh(t, 516, small())
	doing(t, w, grant("a", 5), transfer("a", 3, 2))
	if len(w.Mails()) > 0 {
		t.Error("not ahead of the sync")
	}
	doing(t, w, of(api.DSync, 0))
	first := w.Mails()
	if len(first) != 1 || first[0].To != 3 {
		t.Fatal(first)
	}
	doing(t, w, of(api.DLose, 0), of(api.DResend, 3))
	if !slices.Equal(w.Mails(), first) {
		t.Error("the same bytes", w.Mails())
	}
	doing(t, w, of(api.DTwin, 0), of(api.DCome, 0), of(api.DCome, 0))
	if len(w.Got(3)) != 1 || len(w.Mails()) != 2 {
		t.Error("peer 3 has it once", w.Got(3))
	}
	doing(t, w, of(api.DCome, 0), of(api.DCome, 0), of(api.DSync, 0))
	told(t, w, api.Answer{I: 8}, api.Answer{I: 9, Reply: api.Reply{E: api.ErrNoOut}})
	totals(t, w, api.Total{Key: "a", Free: 3})
}

func TestExample5(t *testing.T) {
	w := fresh(t, 516, small())
	doing(t, w, api.Deed{Kind: api.DOffer, A: 7, B: 4, Text: "q"}, of(api.DTwin, 0), of(api.DCome, 0), of(api.DCome, 0), of(api.DSync, 0))
	told(t, w, api.Answer{I: 2}, api.Answer{I: 3, Reply: api.Reply{E: api.ErrKnown}})
	totals(t, w, api.Total{Key: "q", Free: 4})
	if l := w.Mails(); len(l) != 2 || l[0] != l[1] || l[0].To != 7 {
		t.Error("its ack goes out twice", l)
	}
}

// laid is a disk with a store, in whose log two batches are.
func laid(t *testing.T) (*disk.Disk, *store.Store) {
	t.Helper()
	d, e := disk.New(516)
	if e == api.OK {
		e = store.Format(d, small())
	}
	if e != api.OK {
		t.Fatal(e)
	}
	s, e := store.Open(d, small())
	if e != api.OK {
		t.Fatal(e)
	}
	s.Apply(api.Write{Key: "a", Val: []byte("1")})
	s.Apply(api.Write{Key: "b", Val: []byte("2")})
	if e := s.Sync(); e != api.OK {
		t.Fatal(e)
	}
	return d, s
}

func TestExample6(t *testing.T) {
	for fuse := 0; ; fuse++ {
		d, s := laid(t)
		free := s.Free()
		d.Fuse(fuse)
		e := s.Flush()
		if e == api.OK {
			break
		}
		c, _ := d.Crash()
		o, e2 := store.Open(c, small())
		if e != api.ErrDown || e2 != api.OK {
			t.Fatal(fuse, e, e2)
		}
		if l, e := o.Rows(); e != api.OK || len(l) != 2 || len(o.Version().Tables) > 0 || o.Free() != free {
			t.Error(fuse, l, o.Version(), o.Free(), free)
		}
	}
}

func TestExample7(t *testing.T) {
	r := rand.New(rand.NewPCG(7, 7))
	elder, newer := 0, 0
	for fuse := range 3 {
		for range 100 {
			d, _ := laid(t)
			was, _ := super.Load(d)
			d.Fuse(fuse)
			if _, e := store.Open(d, small()); e != api.ErrDown {
				t.Fatal(e)
			}
			c, _ := d.Crash(fates(r, d.Loose())...)
			switch s, e := super.Load(c); {
			case e == api.OK && s.Gen == was.Gen && s.Epoch == was.Epoch:
				elder++
			case e == api.OK && s.Gen == was.Gen+1 && s.Epoch == was.Epoch+1:
				newer++
			default:
				t.Fatal(s, e)
			}
			o, e := store.Open(c, small())
			if l, e2 := o.Rows(); e != api.OK || e2 != api.OK || len(l) != 2 {
				t.Fatal(e, e2)
			}
		}
	}
	if elder == 0 || newer == 0 {
		t.Error(elder, newer)
	}
}

// tables is a world with "a" and "b" in a table each.
func tables(t *testing.T) *world.World {
	t.Helper()
	w := fresh(t, 516, small())
	doing(t, w, grant("a", 5), of(api.DFlush, 0), grant("b", 6), of(api.DFlush, 0))
	if len(w.Version().Tables) != 2 {
		t.Fatal(w.Version())
	}
	return w
}

func TestExample8(t *testing.T) {
	w := tables(t)
	a, _, _ := file.Sectors(w.Version().Tables[0].Place, 0)
	doing(t, w, api.Deed{Kind: api.DRot, A: a, B: 20, C: 1}, reads("a"))
	told(t, w, api.Answer{I: 5, Reply: api.Reply{N: api.MaxTotal, Free: 5}})
	doing(t, w, of(api.DScrub, 0))
	_, b, _ := file.Sectors(w.Version().Tables[0].Place, 0)
	doing(t, w, api.Deed{Kind: api.DRot, A: b, B: 30, C: 1}, reads("a"))
	told(t, w, api.Answer{I: 8, Reply: api.Reply{N: api.MaxTotal, Free: 5}})
}

func TestExample9(t *testing.T) {
	w := tables(t)
	a, b, _ := file.Sectors(w.Version().Tables[0].Place, 0)
	doing(t, w, api.Deed{Kind: api.DRot, A: a, B: 20, C: 1}, api.Deed{Kind: api.DRot, A: b, B: 20, C: 1}, reads("a"), reads("b"))
	told(t, w, api.Answer{I: 6, Reply: api.Reply{E: api.ErrRot}}, api.Answer{I: 7, Reply: api.Reply{N: api.MaxTotal, Free: 6}})
}

func TestExample10(t *testing.T) {
	w := fresh(t, 36, small())
	full := false
	for i := 0; i < 100 && !full; i++ {
		doing(t, w, grant("a", 1), of(api.DSync, 0))
		l := w.Told()
		full = l[len(l)-1].Reply.E == api.ErrSpace
	}
	n := len(w.Told())
	doing(t, w, reads("a"))
	if l := w.Told(); !full || len(l) != n+1 || l[n].Reply.E != api.OK || l[n].Reply.Free != n-1 || space.Plots(36) != 4 {
		t.Error(full, l)
	}
}
