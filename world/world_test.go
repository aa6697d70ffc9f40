package world_test

import (
	"fmt"
	"math"
	"math/rand/v2"
	"reflect"
	"slices"
	"strings"
	"testing"

	"lien/api"
	"lien/wire"
	"lien/world"
)

// small are settings under which much happens soon.
func small() api.Conf { return api.Conf{Mem: 4, LogPairs: 1, ManPairs: 1, TableBytes: 256} }

// fresh is a new world.
func fresh(t *testing.T, sectors int) *world.World {
	t.Helper()
	w, e := world.New(api.Script{Sectors: sectors, Conf: small()})
	if e != api.OK || w == nil {
		t.Fatal(e)
	}
	return w
}

// ask is the deed of a request.
func ask(r api.Request) api.Deed {
	b, e := wire.Bytes(r)
	if e != api.OK {
		panic(e)
	}
	return api.Deed{Kind: api.DAsk, Text: string(b)}
}

// grant, send and read are deeds of requests.
func grant(key string, n int) api.Deed { return ask(api.Request{Kind: api.QGrant, Key: key, N: n}) }
func send(key string, peer, n int) api.Deed {
	return ask(api.Request{Kind: api.QSend, Key: key, Peer: peer, N: n})
}
func read(key string) api.Deed { return ask(api.Request{Kind: api.QRead, Key: key}) }

// deed is one of a kind, and numbers.
func deed(kind api.DeedKind, l ...int) api.Deed {
	l = append(l, 0, 0, 0)
	return api.Deed{Kind: kind, A: l[0], B: l[1], C: l[2]}
}

// doing does deeds, and fails if one tells an error.
func doing(t *testing.T, w *world.World, l ...api.Deed) {
	t.Helper()
	for _, d := range l {
		if e := w.Do(d); e != api.OK {
			t.Fatal(d, e)
		}
	}
}

// refuses fails, if a deed does not tell that error, or is not counted.
func refuses(t *testing.T, w *world.World, d api.Deed, want api.Errno) {
	t.Helper()
	n := w.Deeds()
	if e := w.Do(d); e != want || w.Deeds() != n+1 {
		t.Error(d, e, w.Deeds())
	}
}

// text is a message's bytes as a text.
func text(m api.Message) string {
	b, e := wire.MsgBytes(m)
	if e != api.OK {
		panic(e)
	}
	return string(b)
}

// transfer and ack are messages.
func transfer(peer, seq int, key string, n int) api.Message {
	return api.Message{Kind: api.MTransfer, Peer: peer, Seq: seq, Key: key, N: n}
}
func ack(peer, seq int) api.Message { return api.Message{Kind: api.MAck, Peer: peer, Seq: seq} }

// told fails, if that is not what was told.
func told(t *testing.T, w *world.World, want ...api.Answer) {
	t.Helper()
	if !slices.Equal(w.Told(), want) {
		t.Error(w.Told(), want)
	}
}

// totals fails, if these are not the totals.
func totals(t *testing.T, w *world.World, want ...api.Total) {
	t.Helper()
	if l, e := w.Totals(); e != api.OK || !slices.Equal(l, want) {
		t.Error(l, e, want)
	}
}

func TestP27_1New(t *testing.T) {
	for _, x := range []struct {
		s api.Script
		e api.Errno
	}{
		{api.Script{}, api.ErrArg}, {api.Script{Sectors: -1, Conf: small()}, api.ErrArg}, {api.Script{Sectors: 4097, Conf: small()}, api.ErrArg}, {api.Script{Sectors: 400}, api.ErrConf}, {api.Script{Sectors: 3, Conf: small()}, api.ErrRange}, {api.Script{Sectors: 35, Conf: small()}, api.ErrSpace},
		{api.Script{Sectors: 36, Conf: small()}, api.OK}, {api.Script{Sectors: 4096, Conf: small(), Deeds: make([]api.Deed, 70000)}, api.OK},
	} {
		w, e := world.New(x.s)
		if e != x.e || (w != nil) != (e == api.OK) {
			t.Error(x.s.Sectors, e)
		}
	}
	w := fresh(t, 600)
	if w.Deeds() != 0 || len(w.Told())+len(w.Mails())+len(w.Loose()) > 0 || w.Down() || !w.Open() || w.Seq() != 0 || w.Durable() != 0 || w.Waiting() != 0 || w.Version().Next != 2 {
		t.Error("a new world")
	}
	totals(t, w)
}

func TestRulesNobodyMadeIt(t *testing.T) {
	for _, w := range []*world.World{nil, {}} {
		l, e := w.Rows()
		k, e2 := w.Totals()
		if w.Do(api.Deed{}) != api.ErrNil || w.Do(deed(api.DSync)) != api.ErrNil || e != api.ErrNil || e2 != api.ErrNil || len(l)+len(k)+len(w.Told())+len(w.Mails())+len(w.Got(3))+len(w.Sent(3))+len(w.Loose()) > 0 || w.Deeds()+w.Seq()+w.Durable()+w.Waiting() != 0 || w.Down() || w.Open() || !reflect.DeepEqual(w.Version(), api.Version{}) {
			t.Error("zero values")
		}
	}
}

func TestP27_2Ask(t *testing.T) {
	w := fresh(t, 600)
	doing(t, w, deed(api.DTick), grant("a", 5))
	if w.Waiting() != 1 || w.Seq() != 1 || w.Durable() != 0 || w.Deeds() != 2 {
		t.Error(w.Waiting())
	}
	told(t, w)
	doing(t, w, deed(api.DSync), api.Deed{Kind: api.DAsk, Text: "xyz"}, read("a"))
	told(t, w, api.Answer{I: 1}, api.Answer{I: 3, Reply: api.Reply{E: api.ErrWire}}, api.Answer{I: 4, Reply: api.Reply{N: api.MaxTotal, Free: 5}})
	totals(t, w, api.Total{Key: "a", Free: 5})
	if l, e := w.Rows(); e != api.OK || len(l) != 1 {
		t.Error(l, e)
	}
}

func TestP27_2Upkeep(t *testing.T) {
	w := fresh(t, 1000)
	for range 4 {
		doing(t, w, grant("a", 1), deed(api.DFlush))
	}
	if v := w.Version(); len(v.Tables) != 4 || w.Durable() != 4 {
		t.Error(v)
	}
	doing(t, w, deed(api.DCompact), deed(api.DScrub))
	if v := w.Version(); len(v.Tables) != 1 || v.Tables[0].Level != 1 {
		t.Error(v)
	}
	doing(t, w, grant("b", 1), grant("c", 1), grant("d", 1), grant("e", 1), deed(api.DTick))
	if w.Durable() != 8 || len(w.Version().Tables) != 1 {
		t.Error("a tick syncs")
	}
	doing(t, w, deed(api.DTick))
	if len(w.Version().Tables) < 2 || len(w.Told()) != 8 {
		t.Error("a tick flushes", w.Told())
	}
}

func TestP27_2SendAndAck(t *testing.T) {
	w := fresh(t, 600)
	doing(t, w, grant("a", 5), send("a", 3, 2))
	if len(w.Mails()) > 0 {
		t.Error("not ahead of the sync")
	}
	doing(t, w, deed(api.DSync))
	out := api.Mail{To: 3, Text: text(transfer(3, 0, "a", 2))}
	if !slices.Equal(w.Mails(), []api.Mail{out}) {
		t.Error(w.Mails())
	}
	doing(t, w, deed(api.DLose, 0))
	if len(w.Mails()) > 0 {
		t.Error(w.Mails())
	}
	doing(t, w, deed(api.DResend, 3), deed(api.DTwin, 0))
	if !slices.Equal(w.Mails(), []api.Mail{out, out}) {
		t.Error("the same bytes", w.Mails())
	}
	doing(t, w, deed(api.DCome, 0), deed(api.DCome, 0))
	back := api.Mail{From: 3, Text: text(ack(3, 0))}
	if !slices.Equal(w.Mails(), []api.Mail{back, back}) || !slices.Equal(w.Got(3), []api.Message{transfer(3, 0, "a", 2)}) || len(w.Got(4)) > 0 {
		t.Error(w.Mails(), w.Got(3))
	}
	totals(t, w, api.Total{Key: "a", Free: 3, Out: 2})
	doing(t, w, deed(api.DCome, 1), deed(api.DCome, 0), deed(api.DSync))
	told(t, w, api.Answer{}, api.Answer{I: 1}, api.Answer{I: 8}, api.Answer{I: 9, Reply: api.Reply{E: api.ErrNoOut}})
	totals(t, w, api.Total{Key: "a", Free: 3})
}

func TestP27_2OfferAndTake(t *testing.T) {
	w := fresh(t, 600)
	doing(t, w, api.Deed{Kind: api.DOffer, A: 7, B: 4, Text: "q"}, api.Deed{Kind: api.DOffer, A: 7, B: 5, Text: "q"}, deed(api.DTwin, 0))
	one, two := transfer(7, 0, "q", 4), transfer(7, 1, "q", 5)
	in := func(m api.Message) api.Mail { return api.Mail{From: 7, Text: text(m)} }
	if !slices.Equal(w.Mails(), []api.Mail{in(one), in(two), in(one)}) || !slices.Equal(w.Sent(7), []api.Message{one, two}) || len(w.Sent(6)) > 0 {
		t.Error(w.Mails())
	}
	doing(t, w, deed(api.DCome, 0), deed(api.DCome, 1))
	if w.Waiting() != 4 {
		t.Error(w.Waiting())
	}
	doing(t, w, deed(api.DSync))
	told(t, w, api.Answer{I: 3}, api.Answer{I: 4, Reply: api.Reply{E: api.ErrKnown}})
	totals(t, w, api.Total{Key: "q", Free: 4})
	acks := api.Mail{To: 7, Text: text(ack(7, 0))}
	if !slices.Equal(w.Mails(), []api.Mail{in(two), acks, acks}) {
		t.Error(w.Mails())
	}
	doing(t, w, deed(api.DAgain, 7))
	if !slices.Equal(w.Mails()[3:], []api.Mail{in(one), in(two)}) {
		t.Error(w.Mails())
	}
	doing(t, w, deed(api.DCome, 1), deed(api.DAgain, 7))
	if l := w.Mails(); len(l) != 5 || l[4] != in(two) {
		t.Error("one has its ack", l)
	}
}

func TestP27_2Refused(t *testing.T) {
	w := fresh(t, 600)
	for _, k := range []api.DeedKind{math.MinInt, -1, 0, 16, math.MaxInt} {
		refuses(t, w, api.Deed{Kind: k}, api.ErrDeed)
	}
	for _, n := range []int{math.MinInt, -1, 0, 16, math.MaxInt} {
		refuses(t, w, api.Deed{Kind: api.DOffer, A: n, B: 1, Text: "a"}, api.ErrDeed)
		refuses(t, w, api.Deed{Kind: api.DOffer, A: n}, api.ErrDeed)
		refuses(t, w, deed(api.DAgain, n), api.ErrDeed)
		refuses(t, w, deed(api.DResend, n), api.ErrArg)
		refuses(t, w, deed(api.DCome, n), api.ErrRange)
		refuses(t, w, deed(api.DLose, n), api.ErrRange)
		refuses(t, w, deed(api.DTwin, n), api.ErrRange)
	}
	for _, n := range []int{math.MinInt, -1, 256, math.MaxInt} {
		refuses(t, w, deed(api.DRot, 9999, 9999, n), api.ErrDeed)
		refuses(t, w, deed(api.DRot, 0, n, 1), api.ErrRange)
	}
	refuses(t, w, deed(api.DRot, 600, 0, 255), api.ErrRange)
	refuses(t, w, deed(api.DFuse, -1), api.ErrRange)
	refuses(t, w, api.Deed{Kind: api.DOffer, A: 1, Text: "a"}, api.ErrArg)
	refuses(t, w, api.Deed{Kind: api.DOffer, A: 1, B: 1}, api.ErrArg)
	refuses(t, w, api.Deed{Kind: api.DCrash, Fates: make([]api.Fate, 1)}, api.ErrMany)
	doing(t, w, deed(api.DRot, 599, 127, 255), api.Deed{Kind: api.DSync, A: -9, B: 7, C: 1 << 40, Text: "xyz", Fates: make([]api.Fate, 9)}, deed(api.DAgain, 15), deed(api.DAgain, 1))
	for range 64 {
		doing(t, w, api.Deed{Kind: api.DOffer, A: 1, B: 1, Text: "a"})
	}
	refuses(t, w, api.Deed{Kind: api.DOffer, A: 1, B: 1, Text: "a"}, api.ErrCrowded)
	doing(t, w, api.Deed{Kind: api.DOffer, A: 15, B: 1, Text: "a"}, deed(api.DLose, 64))
	if len(w.Sent(15)) != 1 {
		t.Error(w.Sent(15))
	}
	if len(w.Mails()) != 64 || !w.Open() {
		t.Error(len(w.Mails()))
	}
	told(t, w)
}

func TestP27_2WhatTheNetRefusesIsLost(t *testing.T) {
	w := fresh(t, 600)
	for range 64 {
		doing(t, w, api.Deed{Kind: api.DOffer, A: 1, B: 1, Text: "a"})
	}
	for range 4 {
		doing(t, w, deed(api.DAgain, 1))
	}
	if len(w.Mails()) != 256 {
		t.Error(len(w.Mails()))
	}
	refuses(t, w, deed(api.DTwin, 0), api.ErrMany)
	doing(t, w, grant("b", 9), send("b", 3, 1), deed(api.DSync), api.Deed{Kind: api.DOffer, A: 2, B: 1, Text: "a"})
	if len(w.Mails()) != 256 || len(w.Sent(2)) != 1 || len(w.Told()) != 2 {
		t.Error(len(w.Mails()))
	}
	totals(t, w, api.Total{Key: "b", Free: 8, Out: 1})
}

func TestP27_2Power(t *testing.T) {
	w := fresh(t, 600)
	doing(t, w, grant("a", 5), deed(api.DSync), grant("a", 2), deed(api.DFuse, 1))
	refuses(t, w, deed(api.DSync), api.ErrDown)
	if !w.Down() || w.Open() || w.Waiting() != 1 || w.Seq() != 2 || w.Durable() != 1 || len(w.Loose()) != 1 || w.Loose()[0].Many != 1 {
		t.Error(w.Down(), w.Open(), w.Loose())
	}
	for _, d := range []api.Deed{deed(api.DSync), deed(api.DTick), deed(api.DFlush), deed(api.DCompact), deed(api.DScrub), deed(api.DResend, 3), grant("a", 1)} {
		refuses(t, w, d, api.ErrHalted)
	}
	refuses(t, w, deed(api.DFuse, 5), api.ErrDown)
	if _, e := w.Rows(); e != api.ErrHalted {
		t.Error(e)
	}
	if _, e := w.Totals(); e != api.ErrHalted {
		t.Error(e)
	}
	doing(t, w, deed(api.DRot, 0, 0, 0), api.Deed{Kind: api.DCrash, Fates: []api.Fate{{}}})
	if w.Down() || !w.Open() || w.Waiting() != 0 || w.Seq() != 1 || len(w.Loose()) > 0 {
		t.Error(w.Open(), w.Seq())
	}
	totals(t, w, api.Total{Key: "a", Free: 5})
	told(t, w, api.Answer{})
	doing(t, w, grant("a", 1), deed(api.DSync))
	told(t, w, api.Answer{}, api.Answer{I: 15})
}

func TestP27_2NoEngine(t *testing.T) {
	w := fresh(t, 600)
	doing(t, w, grant("a", 5), deed(api.DSync), api.Deed{Kind: api.DOffer, A: 7, B: 4, Text: "q"}, deed(api.DTwin, 0))
	for at := range 4 {
		doing(t, w, deed(api.DRot, at, 50, 1))
	}
	refuses(t, w, api.Deed{Kind: api.DCrash}, api.ErrStore)
	if w.Open() || w.Seq() != 0 || w.Durable() != 0 || w.Waiting() != 0 || !reflect.DeepEqual(w.Version(), api.Version{}) {
		t.Error("there is no engine")
	}
	if l, e := w.Rows(); e != api.ErrDeed || len(l) > 0 {
		t.Error(e)
	}
	if l, e := w.Totals(); e != api.ErrDeed || len(l) > 0 {
		t.Error(e)
	}
	for _, d := range []api.Deed{deed(api.DSync), deed(api.DTick), deed(api.DFlush), deed(api.DCompact), deed(api.DScrub), deed(api.DResend, 3), grant("a", 1), {Kind: api.DAsk}} {
		refuses(t, w, d, api.ErrDeed)
	}
	doing(t, w, deed(api.DCome, 0), api.Deed{Kind: api.DOffer, A: 1, B: 1, Text: "z"}, deed(api.DAgain, 7))
	if len(w.Mails()) != 3 || len(w.Told()) != 1 {
		t.Error("what comes to no engine is gone", w.Mails())
	}
	for at := range 4 {
		doing(t, w, deed(api.DRot, at, 50, 1))
	}
	doing(t, w, api.Deed{Kind: api.DCrash})
	if !w.Open() {
		t.Error("it is opened again")
	}
	totals(t, w, api.Total{Key: "a", Free: 5})
}

func TestP27_2ComeToAHaltedOne(t *testing.T) {
	w := fresh(t, 600)
	doing(t, w, api.Deed{Kind: api.DOffer, A: 7, B: 4, Text: "q"}, grant("a", 1), deed(api.DFuse, 0))
	refuses(t, w, deed(api.DSync), api.ErrDown)
	refuses(t, w, deed(api.DCome, 0), api.ErrHalted)
	if len(w.Mails()) > 0 || len(w.Told()) > 0 {
		t.Error("it came", w.Mails())
	}
}

func TestP27_2TooManyDeeds(t *testing.T) {
	w := fresh(t, 600)
	for range api.MaxDeeds {
		w.Do(api.Deed{})
	}
	if w.Deeds() != api.MaxDeeds || w.Do(deed(api.DSync)) != api.ErrMany || w.Do(api.Deed{}) != api.ErrMany || w.Deeds() != api.MaxDeeds {
		t.Error(w.Deeds())
	}
}

func TestP27_3Others(t *testing.T) {
	w := fresh(t, 600)
	doing(t, w, grant("a", 5), send("a", 3, 1), send("a", 3, 1), deed(api.DSync), deed(api.DCome, 0), api.Deed{Kind: api.DOffer, A: 3, B: 4, Text: "q"})
	for _, n := range []int{math.MinInt, -1, 0, 16, math.MaxInt} {
		if len(w.Got(n))+len(w.Sent(n)) > 0 {
			t.Error(n)
		}
	}
	was := snapshot(w)
	w.Told()[0].I = 99
	w.Mails()[0].Text = "x"
	w.Got(3)[0].N = 99
	w.Sent(3)[0].N = 99
	w.Version().Logs[0].Place.Pairs[0].A = 99
	l, _ := w.Rows()
	l[0].Val[0] = 99
	if snapshot(w) != was {
		t.Error("what is told is one's own")
	}
}

// snapshot is all that a world tells, as one text.
func snapshot(w *world.World) string {
	rows, e := w.Rows()
	sums, e2 := w.Totals()
	s := fmt.Sprint(w.Deeds(), w.Told(), w.Mails(), w.Loose(), w.Down(), w.Open(), w.Seq(), w.Durable(), w.Waiting(), w.Version(), rows, e, sums, e2)
	for n := range 16 {
		s += fmt.Sprint(w.Got(n), w.Sent(n))
	}
	return s
}

// some is a deed by chance.
func some(r *rand.Rand, w *world.World) api.Deed {
	names := []string{"a", "b", "cc"}
	key := names[r.IntN(3)]
	switch r.IntN(22) {
	case 0, 1, 2:
		return grant(key, 20+r.IntN(9))
	case 3, 4, 5:
		return send(key, 1+r.IntN(3), 1+r.IntN(3))
	case 6:
		return ask(api.Request{Kind: api.QReserve, Key: key, ID: r.IntN(4), N: 1 + r.IntN(9), Until: r.IntN(30)})
	case 7:
		return ask(api.Request{Kind: api.QConfirm, Key: key, ID: r.IntN(4)})
	case 8:
		return []api.Deed{read(key), {Kind: api.DAsk, Text: "\x00"}, ask(api.Request{Kind: api.QExpire, Key: key}), ask(api.Request{Kind: api.QClock, N: r.IntN(30)})}[r.IntN(4)]
	case 9:
		return deed(api.DFlush)
	case 10:
		return deed(api.DCompact)
	case 11:
		return deed(api.DScrub)
	case 12:
		return deed(api.DResend, 1+r.IntN(3))
	case 13:
		return api.Deed{Kind: api.DOffer, A: 1 + r.IntN(3), B: 1 + r.IntN(5), Text: key}
	case 14:
		return deed(api.DAgain, 1+r.IntN(3))
	case 15, 16:
		return deed(api.DCome, r.IntN(len(w.Mails())+1))
	case 17:
		return deed([]api.DeedKind{api.DLose, api.DTwin}[r.IntN(2)], r.IntN(len(w.Mails())+1))
	case 18:
		if r.IntN(5) == 0 {
			return deed(api.DFuse, r.IntN(30))
		}
	case 19:
		if w.Down() {
			var fates []api.Fate
			for _, l := range w.Loose() {
				f := api.Fate{Keep: r.IntN(l.Many + 1)}
				if f.Keep < l.Many && r.IntN(3) == 0 {
					f.Cut = r.IntN(128)
				}
				fates = append(fates, f)
			}
			return api.Deed{Kind: api.DCrash, Fates: fates}
		}
	}
	return deed([]api.DeedKind{api.DSync, api.DTick}[r.IntN(2)])
}

func TestP27_4TheSame(t *testing.T) {
	r := rand.New(rand.NewPCG(27, 4))
	for range 15 {
		a, b := fresh(t, 900), fresh(t, 900)
		for range 200 {
			d := some(r, a)
			e, e2 := a.Do(d), b.Do(d)
			if e != e2 || snapshot(a) != snapshot(b) {
				t.Fatal(d, e, e2)
			}
		}
	}
}

func TestP27_5And6EachOnce(t *testing.T) {
	r := rand.New(rand.NewPCG(27, 5))
	got, opened := 0, 0
	for range 40 {
		w := fresh(t, 900)
		sends := map[string]int{} // which transfers some request asked, by peer, key and how many
		toldOf := map[int]int{}
		last, since := -1, 0
		asks := map[int]int{}
		for i := range 400 {
			d := some(r, w)
			if d.Kind == api.DAsk || d.Kind == api.DCome {
				asks[i]++
			}
			if q, e := wire.Read([]byte(d.Text)); d.Kind == api.DAsk && e == api.OK && q.Kind == api.QSend {
				sends[fmt.Sprint(q.Peer, q.Key, q.N)]++
			}
			w.Do(d)
			if d.Kind == api.DCrash {
				last, opened = -1, opened+1
			}
			for _, a := range w.Told()[since:] {
				toldOf[a.I]++
				if a.I <= last || toldOf[a.I] > 1 || asks[a.I] == 0 {
					t.Fatal("told", a, last)
				}
				last = a.I
			}
			since = len(w.Told())
		}
		for n := 1; n <= api.MaxPeer; n++ {
			seen := map[int]int{}
			for _, m := range w.Got(n) {
				seen[m.Seq]++
				got++
				if seen[m.Seq] > 1 || sends[fmt.Sprint(n, m.Key, m.N)] == 0 {
					t.Fatal(m)
				}
			}
		}
	}
	if got == 0 || opened == 0 {
		t.Error(got, opened)
	}
}

func TestRulesWhateverIsHandedIn(t *testing.T) {
	r := rand.New(rand.NewPCG(27, 7))
	num := func() int { return []int{0, 1, 2, 3, 7, 15, 255, -1, 1 << 20, math.MaxInt, math.MinInt}[r.IntN(11)] }
	for range 10 {
		w := fresh(t, 60+r.IntN(600))
		for range 300 {
			d := api.Deed{Kind: api.DeedKind(r.IntN(18) - 1), A: num(), B: num(), C: num(), Text: strings.Repeat("\x01", r.IntN(9))}
			for range r.IntN(3) {
				d.Fates = append(d.Fates, api.Fate{Keep: num(), Cut: num()})
			}
			if d.Kind == api.DRot && r.IntN(2) == 0 {
				d.A, d.B, d.C = r.IntN(60), r.IntN(128), r.IntN(256)
			}
			w.Do(d)
			snapshot(w)
		}
	}
}
