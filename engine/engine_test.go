package engine_test

import (
	"bytes"
	"math"
	"math/rand/v2"
	"slices"
	"strings"
	"testing"

	"lien/api"
	"lien/disk"
	"lien/engine"
	"lien/file"
	"lien/model"
	"lien/store"
	"lien/wire"
)

// small are settings under which much happens soon.
func small() api.Conf { return api.Conf{Mem: 4, LogPairs: 1, ManPairs: 1, TableBytes: 256} }

// formatted is a disk with a new store.
func formatted(t *testing.T, sectors int, c api.Conf) *disk.Disk {
	t.Helper()
	d, e := disk.New(sectors)
	if e == api.OK {
		e = store.Format(d, c)
	}
	if e != api.OK {
		t.Fatal(e)
	}
	return d
}

// opened is an engine of the store on a disk.
func opened(t *testing.T, d *disk.Disk, c api.Conf) *engine.Engine {
	t.Helper()
	s, e := store.Open(d, c)
	if e != api.OK {
		t.Fatal(e)
	}
	x, e := engine.New(s)
	if e != api.OK || x == nil {
		t.Fatal(e)
	}
	return x
}

// fresh is an engine of a new store.
func fresh(t *testing.T, sectors int) (*engine.Engine, *disk.Disk) {
	t.Helper()
	d := formatted(t, sectors, small())
	return opened(t, d, small()), d
}

// asked asks a request, which must be counted.
func asked(t *testing.T, e *engine.Engine, r api.Request) int {
	t.Helper()
	b, err := wire.Bytes(r)
	if err != api.OK {
		t.Fatal(err)
	}
	n, err := e.Ask(b)
	if err != api.OK {
		t.Fatal(r, err)
	}
	return n
}

// grant and send are requests.
func grant(key string, n int) api.Request { return api.Request{Kind: api.QGrant, Key: key, N: n} }
func send(key string, peer, n int) api.Request {
	return api.Request{Kind: api.QSend, Key: key, Peer: peer, N: n}
}

func TestP25_1New(t *testing.T) {
	for _, s := range []*store.Store{nil, {}} {
		if e, err := engine.New(s); err != api.ErrNil || e != nil {
			t.Error(err)
		}
	}
	d := formatted(t, 400, small())
	s, _ := store.Open(d, small())
	e, err := engine.New(s)
	if err != api.OK || e.Store() != s || e.Waiting() != 0 || len(e.Answers()) > 0 || len(e.Messages()) > 0 {
		t.Error(err)
	}
	d.Fuse(0)
	s.Rows()
	s.Apply(api.Write{Key: "a"})
	s.Sync()
	if e, err := engine.New(s); err != api.OK || !s.Halted() {
		t.Error("a halted one was opened, too", err)
	} else if _, err := e.Ask(nil); err != api.ErrHalted {
		t.Error(err)
	}
}

func TestRulesNobodyMadeIt(t *testing.T) {
	for _, e := range []*engine.Engine{nil, {}} {
		n, e1 := e.Ask(nil)
		w, e2 := e.Tick()
		did, e3 := e.Compact()
		x, e4 := e.Scrub()
		for i, err := range []api.Errno{e1, e2, e3, e4, e.Sync(), e.Flush(), e.Resend(3), e.Resend(-1)} {
			if err != api.ErrNil {
				t.Error(i, err)
			}
		}
		if n != 0 || w != api.NoWork || did || x != (api.Scrubbed{}) || len(e.Answers())+len(e.Messages())+e.Waiting() != 0 || e.Store() != nil {
			t.Error("zero values")
		}
	}
}

// is fails, if these are not the answers.
func is(t *testing.T, got []api.Answer, want ...api.Answer) {
	t.Helper()
	if !slices.Equal(got, want) {
		t.Error(got, want)
	}
}

func TestP25_2Ask(t *testing.T) {
	e, _ := fresh(t, 400)
	if n := asked(t, e, grant("a", 5)); n != 0 || e.Waiting() != 1 || len(e.Answers()) > 0 {
		t.Error(n, e.Waiting())
	}
	if n, err := e.Ask([]byte{1, 1}); n != 1 || err != api.OK {
		t.Error(n, err)
	}
	if n, err := e.Ask(nil); n != 2 || err != api.OK {
		t.Error(n, err)
	}
	asked(t, e, api.Request{Kind: api.QRead, Key: "a"})
	asked(t, e, api.Request{Kind: api.QSpend, Key: "a", N: 9})
	asked(t, e, send("a", 3, 2))
	asked(t, e, api.Request{Kind: api.QTake, Peer: 7, Seq: 0, Key: "a", N: 4})
	asked(t, e, api.Request{Kind: api.QTake, Peer: 7, Seq: 0, Key: "a", N: 4})
	if e.Waiting() != 11 || len(e.Answers())+len(e.Messages()) > 0 || e.Store().Seq() != 3 || e.Store().Durable() != 0 {
		t.Error(e.Waiting(), e.Store().Seq())
	}
	if err := e.Sync(); err != api.OK || e.Waiting() != 0 {
		t.Error(err)
	}
	is(t, e.Answers(), api.Answer{}, api.Answer{I: 1, Reply: api.Reply{E: api.ErrWire}}, api.Answer{I: 2, Reply: api.Reply{E: api.ErrWire}}, api.Answer{I: 3, Reply: api.Reply{N: api.MaxTotal, Free: 5}}, api.Answer{I: 4, Reply: api.Reply{E: api.ErrShort}},
		api.Answer{I: 5}, api.Answer{I: 6}, api.Answer{I: 7, Reply: api.Reply{E: api.ErrKnown}})
	ack := api.Message{Kind: api.MAck, Peer: 7}
	if l := e.Messages(); !slices.Equal(l, []api.Message{{Kind: api.MTransfer, Peer: 3, Key: "a", N: 2}, ack, ack}) {
		t.Error(l)
	}
	if len(e.Answers())+len(e.Messages()) > 0 {
		t.Error("just once")
	}
	asked(t, e, api.Request{Kind: api.QRead, Key: "a"})
	is(t, e.Answers(), api.Answer{I: 8, Reply: api.Reply{N: api.MaxTotal, Free: 7}})
}

func TestP25_2WhatHangsOnNothingIsLetOutAtOnce(t *testing.T) {
	e, _ := fresh(t, 400)
	asked(t, e, api.Request{Kind: api.QRead, Key: "a"})
	asked(t, e, grant("a", 0))
	is(t, e.Answers(), api.Answer{Reply: api.Reply{N: api.MaxTotal}}, api.Answer{I: 1, Reply: api.Reply{E: api.ErrArg}})
	asked(t, e, grant("a", 1))
	asked(t, e, api.Request{Kind: api.QRead, Key: "b"})
	if e.Waiting() != 2 || len(e.Answers()) > 0 {
		t.Error("what comes behind waits, too")
	}
}

func TestP25_2ErrorsOfTheStore(t *testing.T) {
	e, d := fresh(t, 4+8*6)
	m := model.New()
	told := map[api.Errno]int{}
	for i := range 300 {
		r := grant(string([]byte{byte('a' + i%20)}), 1)
		n := asked(t, e, r)
		e.Sync()
		l := e.Answers()
		if len(l) != 1 || l[0].I != n {
			t.Fatal(l)
		}
		told[l[0].Reply.E]++
		if l[0].Reply.E == api.OK {
			m.Do(r)
		}
		same(t, e, m)
	}
	if told[api.ErrSpace] == 0 || told[api.OK]+told[api.ErrSpace] != 300 {
		t.Error(told)
	}
	for _, l := range e.Store().Version().Logs {
		for i := range 8 {
			a, b, _ := file.Sectors(l.Place, i)
			d.Rot(a, 20, 1)
			d.Rot(b, 20, 1)
		}
	}
	asked(t, e, api.Request{Kind: api.QRead, Key: "a"})
	if l := e.Answers(); l[0].Reply.E != api.OK || l[0].Reply.Free == 0 {
		t.Error("one that reads is answered", l)
	}
}

// same fails, if an engine's rows are not a model's.
func same(t *testing.T, e *engine.Engine, m *model.Model) {
	t.Helper()
	l, err := e.Store().Rows()
	if err != api.OK || !slices.EqualFunc(l, m.Rows(), func(a, b api.KV) bool { return a.Key == b.Key && bytes.Equal(a.Val, b.Val) }) {
		t.Fatal(err, l, m.Rows())
	}
}

func TestP25_2RottenRows(t *testing.T) {
	e, d := fresh(t, 600)
	asked(t, e, grant("a", 1))
	e.Flush()
	asked(t, e, grant("b", 1))
	e.Sync()
	e.Answers()
	x := e.Store().Version().Tables[0]
	a, b, _ := file.Sectors(x.Place, 0)
	d.Rot(a, 20, 1)
	d.Rot(b, 20, 1)
	seq := e.Store().Seq()
	asked(t, e, grant("a", 1))
	asked(t, e, grant("b", 1))
	e.Sync()
	is(t, e.Answers(), api.Answer{I: 2, Reply: api.Reply{E: api.ErrRot}}, api.Answer{I: 3})
	if e.Store().Seq() != seq+1 {
		t.Error(e.Store().Seq())
	}
}

func TestP25_2Halted(t *testing.T) {
	e, d := fresh(t, 400)
	asked(t, e, grant("a", 5))
	asked(t, e, send("a", 3, 1))
	d.Fuse(1)
	if err := e.Sync(); err != api.ErrDown || e.Waiting() != 3 {
		t.Error(err, e.Waiting())
	}
	n, e1 := e.Ask([]byte{12, 1, 97})
	w, e2 := e.Tick()
	did, e3 := e.Compact()
	x, e4 := e.Scrub()
	for i, err := range []api.Errno{e1, e2, e3, e4, e.Sync(), e.Flush(), e.Resend(3), e.Resend(-1)} {
		if err != api.ErrHalted {
			t.Error(i, err)
		}
	}
	if n != 0 || w != api.NoWork || did || x != (api.Scrubbed{}) || e.Waiting() != 3 || len(e.Answers())+len(e.Messages()) > 0 {
		t.Error("what waited stays", e.Waiting())
	}
}

func TestP25_2HaltedWithin(t *testing.T) {
	e, d := fresh(t, 600)
	asked(t, e, grant("a", 5))
	e.Flush()
	e.Answers()
	asked(t, e, grant("b", 5))
	d.Fuse(0)
	if n, err := e.Ask([]byte{12, 1, 97}); n != 0 || err != api.ErrHalted || e.Waiting() != 1 {
		t.Error(n, err, e.Waiting())
	}
	// The group is synced, and then the power goes: what waits for it is let out.
	for fuse := 3; fuse < 6; fuse++ {
		o, d := fresh(t, 600)
		for i := range 8 {
			asked(t, o, grant("k", 1+i))
			if i < 7 {
				o.Sync()
			}
		}
		o.Answers()
		d.Fuse(fuse)
		b, _ := wire.Bytes(grant(strings.Repeat("n", 16), 1))
		var err api.Errno
		n := 0
		for err == api.OK && n < 20 {
			n++
			_, err = o.Ask(b)
		}
		if err != api.ErrHalted || o.Store().Durable() < 8 {
			t.Error(fuse, err, o.Store().Durable())
		}
		l := o.Answers()
		if len(l) != o.Store().Durable()-7 || l[0].I != 7 || o.Waiting() != o.Store().Seq()-o.Store().Durable() {
			t.Error(fuse, l, o.Waiting())
		}
	}
}

func TestP25_3TheStores(t *testing.T) {
	e, d := fresh(t, 600)
	for round := range 4 {
		for i := range 4 {
			asked(t, e, grant(string([]byte{byte('a' + i)}), 1+round))
		}
		if w, err := e.Tick(); w != api.WSync || err != api.OK || e.Waiting() != 0 || len(e.Answers()) != 4 {
			t.Error(w, err)
		}
		asked(t, e, grant("e", 1))
		if err := e.Flush(); err != api.OK || e.Waiting() != 0 || len(e.Answers()) != 1 || len(e.Store().Version().Tables) == 0 {
			t.Error(err)
		}
	}
	asked(t, e, grant("e", 1))
	if did, err := e.Compact(); !did || err != api.OK || e.Waiting() != 1 {
		t.Error(did, err)
	}
	if x, err := e.Scrub(); x.Looked == 0 || err != api.OK || e.Waiting() != 1 {
		t.Error(x, err)
	}
	if did, err := e.Compact(); did || err != api.OK {
		t.Error(did, err)
	}
	a, b, _ := file.Sectors(e.Store().Version().Tables[0].Place, 0)
	d.Rot(a, 9, 1)
	d.Rot(b, 9, 1)
	if x, err := e.Scrub(); x.Lost != 1 || err != api.OK {
		t.Error(x, err)
	}
}

func TestP25_4Resend(t *testing.T) {
	e, d := fresh(t, 600)
	asked(t, e, grant("a", 50))
	for i := range 3 {
		asked(t, e, send("a", 3, 1+i))
		asked(t, e, send("a", 4, 1))
	}
	e.Sync()
	first := e.Messages()
	e.Answers()
	if err := e.Resend(3); err != api.OK || e.Waiting() != 0 {
		t.Error(err)
	}
	want := []api.Message{first[0], first[2], first[4]}
	if l := e.Messages(); !slices.Equal(l, want) {
		t.Error(l, want)
	}
	asked(t, e, api.Request{Kind: api.QAcked, Peer: 3, Seq: 1})
	if err := e.Resend(3); err != api.OK || e.Waiting() != 3 || len(e.Messages()) > 0 {
		t.Error("they wait for the store's number", err, e.Waiting())
	}
	e.Sync()
	if l := e.Messages(); !slices.Equal(l, []api.Message{first[0], first[4]}) {
		t.Error(l)
	}
	for _, peer := range []int{math.MinInt, -1, 0, 16, math.MaxInt} {
		if err := e.Resend(peer); err != api.ErrArg {
			t.Error(peer, err)
		}
	}
	if err := e.Resend(9); err != api.OK || e.Waiting() != 0 {
		t.Error(err)
	}
	e.Flush()
	d.Fuse(0)
	if err := e.Resend(3); err != api.ErrHalted || e.Waiting() != 0 {
		t.Error(err)
	}
}

func TestP25_5OwnMemory(t *testing.T) {
	e, _ := fresh(t, 600)
	b, _ := wire.Bytes(grant("a", 5))
	e.Ask(b)
	e.Ask(b)
	for i := range b {
		b[i] = 0
	}
	e.Sync()
	l := e.Answers()
	l[0].I = 99
	l = append(l[:1], api.Answer{})
	asked(t, e, grant("a", 5))
	e.Sync()
	is(t, e.Answers(), api.Answer{I: 2})
	if len(l) != 2 {
		t.Error(l)
	}
}

// some is a request by chance, as bytes; now and then these are none.
func some(r *rand.Rand) ([]byte, api.Request, bool) {
	q := api.Request{Kind: api.AskKind(1 + r.IntN(12)), Key: []string{"a", "b", "cc"}[r.IntN(3)], ID: r.IntN(4), N: 1 + r.IntN(9), Until: r.IntN(30), Peer: 1 + r.IntN(3), Seq: r.IntN(6)}
	if r.IntN(3) == 0 {
		q.Kind, q.N = api.QGrant, 40
	}
	if r.IntN(20) == 0 {
		q.Key, q.N = "", 0
	}
	switch q.Kind { // what is no field of the kind
	case api.QGrant, api.QSpend, api.QQuota:
		q = api.Request{Kind: q.Kind, Key: q.Key, N: q.N}
	case api.QReserve:
		q.Peer, q.Seq = 0, 0
	case api.QConfirm, api.QCancel:
		q = api.Request{Kind: q.Kind, Key: q.Key, ID: q.ID}
	case api.QExpire, api.QRead:
		q = api.Request{Kind: q.Kind, Key: q.Key}
	case api.QClock:
		q = api.Request{Kind: q.Kind, N: q.N}
	case api.QSend:
		q = api.Request{Kind: q.Kind, Key: q.Key, N: q.N, Peer: q.Peer}
	case api.QAcked:
		q = api.Request{Kind: q.Kind, Peer: q.Peer, Seq: q.Seq}
	case api.QTake:
		q.ID, q.Until = 0, 0
	}
	b, e := wire.Bytes(q)
	if e != api.OK {
		panic(q)
	}
	if r.IntN(25) == 0 {
		b = append(b, 7)
	}
	got, e := wire.Read(b)
	return b, got, e == api.OK
}

// upkeep does something by chance that is no request.
func upkeep(r *rand.Rand, e *engine.Engine) {
	switch r.IntN(12) {
	case 0:
		e.Flush()
	case 1:
		e.Compact()
	case 2:
		e.Scrub()
	case 3, 4, 5:
		e.Sync()
	default:
		e.Tick()
	}
}

func TestP25_6AsTheModel(t *testing.T) {
	r := rand.New(rand.NewPCG(25, 6))
	for range 20 {
		e, _ := fresh(t, 1500)
		m := model.New()
		var want, got []api.Answer
		var wantMail, gotMail []api.Message
		for n := range 250 {
			b, q, ok := some(r)
			if k, err := e.Ask(b); k != n || err != api.OK {
				t.Fatal(k, err)
			}
			p := api.Reply{E: api.ErrWire}
			if ok {
				var l []api.Message
				p, l = m.Do(q)
				wantMail = append(wantMail, l...)
			}
			want = append(want, api.Answer{I: n, Reply: p})
			if r.IntN(3) == 0 {
				upkeep(r, e)
			}
			got, gotMail = append(got, e.Answers()...), append(gotMail, e.Messages()...)
		}
		e.Sync()
		got, gotMail = append(got, e.Answers()...), append(gotMail, e.Messages()...)
		if !slices.Equal(got, want) || !slices.Equal(gotMail, wantMail) {
			t.Fatal(len(got), len(want))
		}
		same(t, e, m)
	}
}

// fate is what becomes of loose sectors, by chance.
func fate(r *rand.Rand, loose []api.Loose) []api.Fate {
	var out []api.Fate
	for _, l := range loose {
		f := api.Fate{Keep: r.IntN(l.Many + 1)}
		if f.Keep < l.Many && r.IntN(3) == 0 {
			f.Cut = r.IntN(128)
		}
		out = append(out, f)
	}
	return out
}

func TestP25_7And8TheGate(t *testing.T) {
	r := rand.New(rand.NewPCG(25, 7))
	lost := 0
	for range 60 {
		d := formatted(t, 1200, small())
		states := []*model.Model{model.New()} // behind each number of the store's
		told := 0                             // up to which number something was told of
		sent := map[[2]int]api.Message{}
		for range 6 {
			e := opened(t, d, small())
			n := e.Store().Seq()
			if n < told || n >= len(states) {
				t.Fatal(n, told, len(states))
			}
			same(t, e, states[n])
			lost += len(states) - 1 - n
			states = states[:n+1]
			m := states[n].Fork()
			d.Fuse(r.IntN(80))
			var numbers []int // for which number each request's reply waits
			for !e.Store().Halted() {
				b, q, ok := some(r)
				before := e.Store().Seq()
				k, err := e.Ask(b)
				if err == api.OK {
					if k != len(numbers) {
						t.Fatal(k)
					}
					numbers = append(numbers, e.Store().Seq())
					if ok {
						m.Do(q)
					}
					if e.Store().Seq() > before {
						states = append(states, m.Fork())
					}
				}
				if r.IntN(3) == 0 {
					upkeep(r, e)
				}
				if r.IntN(5) == 0 {
					e.Resend(1 + r.IntN(3))
				}
				for _, a := range e.Answers() {
					told = max(told, numbers[a.I])
				}
				for _, x := range e.Messages() {
					if x.Kind != api.MTransfer {
						continue
					}
					at := [2]int{x.Peer, x.Seq}
					if was, ok := sent[at]; ok && was != x {
						t.Fatal("another transfer of the same number", was, x)
					}
					sent[at] = x
				}
				if told > e.Store().Durable() {
					t.Fatal("told of what is not on the disk", told, e.Store().Durable())
				}
			}
			d, _ = d.Crash(fate(r, d.Loose())...)
		}
	}
	if lost == 0 {
		t.Error("nothing was lost that was not told")
	}
}
