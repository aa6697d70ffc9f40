package model_test

import (
	"bytes"
	"maps"
	"math"
	"math/rand/v2"
	"reflect"
	"slices"
	"strconv"
	"strings"
	"testing"

	"lien/api"
	"lien/books"
	"lien/code"
	"lien/model"
	"lien/outbox"
	"lien/rights"
)

// plain is the chapter's words: what there is, in maps.
type plain struct {
	accounts map[string]api.Account
	holds    map[string]map[int]api.Hold
	outs     map[int]map[int]api.Intent
	next     map[int]int
	had      map[int]map[int]bool
	clock    int
}

// newPlain is nothing.
func newPlain() *plain {
	return &plain{map[string]api.Account{}, map[string]map[int]api.Hold{}, map[int]map[int]api.Intent{}, map[int]int{}, map[int]map[int]bool{}, 0}
}

// account is a name's.
func (p *plain) account(name string) api.Account {
	if a, ok := p.accounts[name]; ok {
		return a
	}
	return api.Account{Quota: api.MaxTotal}
}

// set makes an account another one.
func (p *plain) set(name string, a api.Account) {
	p.accounts[name] = a
	if a == (api.Account{Quota: api.MaxTotal}) {
		delete(p.accounts, name)
	}
}

// in tells whether a number lies between two others.
func in(n, least, most int) bool { return n >= least && n <= most }

// may tells whether what a request's kind has is as said.
func may(r api.Request) bool {
	type has struct{ key, n, id, until, peer, seq bool }
	h, ok := map[api.AskKind]has{
		api.QGrant: {key: true, n: true}, api.QSpend: {key: true, n: true}, api.QReserve: {key: true, n: true, id: true, until: true}, api.QConfirm: {key: true, id: true}, api.QCancel: {key: true, id: true}, api.QExpire: {key: true},
		api.QClock: {n: true}, api.QQuota: {key: true, n: true}, api.QSend: {key: true, n: true, peer: true}, api.QAcked: {peer: true, seq: true}, api.QTake: {key: true, n: true, peer: true, seq: true}, api.QRead: {key: true},
	}[r.Kind]
	least, most := 1, api.MaxTotal
	if r.Kind == api.QQuota || r.Kind == api.QClock {
		least = 0
	}
	if r.Kind == api.QClock {
		most = api.MaxTime
	}
	return ok && (!h.key || in(len(r.Key), 1, 16)) && (!h.n || in(r.N, least, most)) && (!h.id || in(r.ID, 0, 1<<40)) && (!h.until || in(r.Until, 0, 1<<40)) && (!h.peer || in(r.Peer, 1, 15)) && (!h.seq || in(r.Seq, 0, 1<<40))
}

// do does a request.
func (p *plain) do(r api.Request) (api.Reply, []api.Message, []api.Line) {
	no := func(e api.Errno) (api.Reply, []api.Message, []api.Line) { return api.Reply{E: e}, nil, nil }
	one := func(k api.LineKind, n int) []api.Line { return []api.Line{{Kind: k, Key: r.Key, N: n}} }
	if !may(r) {
		return no(api.ErrArg)
	}
	a := p.account(r.Key)
	h, held := p.holds[r.Key][r.ID]
	switch r.Kind {
	case api.QGrant:
		if a.Free+a.Held+r.N > api.MaxTotal {
			return no(api.ErrOver)
		}
		a.Free += r.N
		p.set(r.Key, a)
		return api.Reply{}, nil, one(api.LGrant, r.N)
	case api.QSpend:
		if a.Free < r.N {
			return no(api.ErrShort)
		}
		a.Free -= r.N
		p.set(r.Key, a)
		return api.Reply{}, nil, one(api.LSpend, r.N)
	case api.QQuota:
		a.Quota = r.N
		p.set(r.Key, a)
		return api.Reply{}, nil, nil
	case api.QReserve:
		switch {
		case r.Until < p.clock:
			return no(api.ErrLate)
		case held:
			return no(api.ErrTwice)
		case a.Free < r.N:
			return no(api.ErrShort)
		case a.Held+r.N > a.Quota:
			return no(api.ErrQuota)
		}
		a.Free, a.Held = a.Free-r.N, a.Held+r.N
		p.set(r.Key, a)
		if p.holds[r.Key] == nil {
			p.holds[r.Key] = map[int]api.Hold{}
		}
		p.holds[r.Key][r.ID] = api.Hold{N: r.N, Until: r.Until}
		return api.Reply{}, nil, one(api.LHold, r.N)
	case api.QConfirm, api.QCancel:
		if !held {
			return no(api.ErrNoHold)
		}
		if r.Kind == api.QConfirm && h.Until < p.clock {
			return no(api.ErrLate)
		}
		a.Held -= h.N
		kind := api.LConfirm
		if r.Kind == api.QCancel {
			a.Free += h.N
			kind = api.LRelease
		}
		p.set(r.Key, a)
		delete(p.holds[r.Key], r.ID)
		return api.Reply{N: h.N}, nil, one(kind, h.N)
	case api.QExpire:
		n, due := 0, 0
		for _, id := range slices.Sorted(maps.Keys(p.holds[r.Key])) {
			if x := p.holds[r.Key][id]; x.Until < p.clock && due < 32 {
				n += x.N
				due++
				delete(p.holds[r.Key], id)
			}
		}
		a.Free, a.Held = a.Free+n, a.Held-n
		p.set(r.Key, a)
		if n == 0 {
			return api.Reply{}, nil, nil
		}
		return api.Reply{N: n}, nil, one(api.LRelease, n)
	case api.QClock:
		p.clock = max(p.clock, r.N)
		return api.Reply{}, nil, nil
	case api.QRead:
		return api.Reply{N: a.Quota, Free: a.Free, Held: a.Held}, nil, nil
	}
	return p.doWithPeer(r, a)
}

// doWithPeer does a request that has a peer.
func (p *plain) doWithPeer(r api.Request, a api.Account) (api.Reply, []api.Message, []api.Line) {
	if p.outs[r.Peer] == nil {
		p.outs[r.Peer], p.had[r.Peer] = map[int]api.Intent{}, map[int]bool{}
	}
	switch r.Kind {
	case api.QSend:
		if a.Free < r.N {
			return api.Reply{E: api.ErrShort}, nil, nil
		}
		if len(p.outs[r.Peer]) >= 64 {
			return api.Reply{E: api.ErrCrowded}, nil, nil
		}
		seq := p.next[r.Peer]
		a.Free -= r.N
		p.set(r.Key, a)
		p.outs[r.Peer][seq] = api.Intent{Key: r.Key, N: r.N}
		p.next[r.Peer]++
		return api.Reply{Seq: seq}, []api.Message{{Kind: api.MTransfer, Peer: r.Peer, Seq: seq, Key: r.Key, N: r.N}}, []api.Line{{Kind: api.LSend, Key: r.Key, N: r.N}}
	case api.QAcked:
		x, ok := p.outs[r.Peer][r.Seq]
		if !ok {
			return api.Reply{E: api.ErrNoOut}, nil, nil
		}
		delete(p.outs[r.Peer], r.Seq)
		return api.Reply{}, nil, []api.Line{{Kind: api.LAcked, Key: x.Key, N: x.N}}
	}
	floor := 0
	for p.had[r.Peer][floor] {
		floor++
	}
	ack := []api.Message{{Kind: api.MAck, Peer: r.Peer, Seq: r.Seq}}
	switch {
	case p.had[r.Peer][r.Seq]:
		return api.Reply{E: api.ErrKnown}, ack, nil
	case r.Seq >= floor+64:
		return api.Reply{E: api.ErrAhead}, nil, nil
	case a.Free+a.Held+r.N > api.MaxTotal:
		return api.Reply{E: api.ErrOver}, nil, nil
	}
	p.had[r.Peer][r.Seq] = true
	a.Free += r.N
	p.set(r.Key, a)
	return api.Reply{}, ack, []api.Line{{Kind: api.LCredit, Key: r.Key, N: r.N}}
}

// rows are all rows.
func (p *plain) rows() []api.KV {
	all := map[string][]byte{}
	lay := func(key string, e api.Errno) func(b []byte, e api.Errno) {
		return func(b []byte, e2 api.Errno) {
			if e != api.OK || e2 != api.OK {
				panic("a row that may not be")
			}
			all[key] = b
		}
	}
	for name, a := range p.accounts {
		lay(outbox.AccountKey(name))(rights.AccountBytes(a))
	}
	for name, l := range p.holds {
		for id, h := range l {
			lay(outbox.HoldKey(name, id))(rights.HoldBytes(h))
		}
	}
	for peer, l := range p.outs {
		for seq, x := range l {
			lay(outbox.OutKey(peer, seq))(outbox.IntentBytes(x))
		}
		if n := p.next[peer]; n > 0 {
			lay(outbox.NextKey(peer))(outbox.NumBytes(n))
		}
		box := api.Inbox{}
		for p.had[peer][box.Floor] {
			box.Floor++
		}
		for k := range 64 {
			if p.had[peer][box.Floor+k] {
				box.Mask |= 1 << k
			}
		}
		if box != (api.Inbox{}) {
			lay(outbox.InboxKey(peer))(outbox.InboxBytes(box))
		}
	}
	if p.clock > 0 {
		lay(outbox.ClockKey(), api.OK)(outbox.NumBytes(p.clock))
	}
	var l []api.KV
	for _, key := range slices.Sorted(maps.Keys(all)) {
		l = append(l, api.KV{Key: key, Val: all[key]})
	}
	return l
}

// sameRows tells whether rows are alike.
func sameRows(a, b []api.KV) bool {
	return slices.EqualFunc(a, b, func(x, y api.KV) bool { return x.Key == y.Key && bytes.Equal(x.Val, y.Val) })
}

// some is a request by chance: mostly one that may be.
func some(r *rand.Rand) api.Request {
	q := api.Request{Kind: api.AskKind(1 + r.IntN(12)), Key: []string{"a", "b", "cc", "\x00"}[r.IntN(4)], ID: r.IntN(4), N: 1 + r.IntN(9), Until: r.IntN(30), Peer: 1 + r.IntN(3), Seq: r.IntN(6)}
	switch r.IntN(40) {
	case 0:
		q.Kind = api.AskKind(r.IntN(20) - 3)
	case 1:
		q.Key = strings.Repeat("n", r.IntN(20))
	case 2:
		q.N = []int{-1, 0, api.MaxTotal, api.MaxTotal + 1, math.MaxInt, math.MinInt, api.MaxTotal / 2}[r.IntN(7)]
	case 3:
		q.ID, q.Until = r.IntN(9)-4, r.IntN(9)-4
	case 4:
		q.Peer, q.Seq = r.IntN(20)-2, r.IntN(9)-4
	case 5:
		q.Seq = []int{63, 64, 65, 70, 1 << 40, 1<<40 + 1}[r.IntN(6)]
	}
	if q.Kind == api.QClock && r.IntN(8) > 0 {
		q.N = r.IntN(9)
	}
	if q.Kind == api.QGrant && r.IntN(2) == 0 {
		q.N = 50
	}
	return q
}

func TestP24_1AsTheWords(t *testing.T) {
	r := rand.New(rand.NewPCG(24, 1))
	told := map[api.Errno]int{}
	for range 150 {
		p, m := newPlain(), model.New()
		clock := 1 + r.IntN(40)
		for i := range 300 {
			q := some(r)
			if i%clock == 0 {
				q = api.Request{Kind: api.QClock, N: i / 12}
			}
			lines, e := model.Lines(m, q)
			reply, messages := m.Do(q)
			wantReply, wantMessages, wantLines := p.do(q)
			if reply != wantReply || !slices.Equal(messages, wantMessages) || e != api.OK || !slices.Equal(lines, wantLines) {
				t.Fatal(q, reply, wantReply, messages, wantMessages, lines, wantLines)
			}
			if !sameRows(m.Rows(), p.rows()) {
				t.Fatal(q, m.Rows(), p.rows())
			}
			told[reply.E]++
		}
	}
	for _, e := range []api.Errno{api.OK, api.ErrArg, api.ErrShort, api.ErrOver, api.ErrTwice, api.ErrNoHold, api.ErrLate, api.ErrKnown, api.ErrAhead, api.ErrNoOut} {
		if told[e] == 0 {
			t.Error("never told", e, told)
		}
	}
}

// doing does requests to a model, and fails if one is refused.
func doing(t *testing.T, m *model.Model, l ...api.Request) {
	t.Helper()
	for _, q := range l {
		if p, _ := m.Do(q); p.E != api.OK {
			t.Fatal(q, p)
		}
	}
}

// grant is a request.
func grant(key string, n int) api.Request { return api.Request{Kind: api.QGrant, Key: key, N: n} }

func TestP24_1ErrArg(t *testing.T) {
	good := api.Request{Key: "a", ID: 1, N: 1, Until: 9, Peer: 3, Seq: 0}
	for k := api.QGrant; k <= api.QRead; k++ {
		for i := range 6 {
			for _, n := range []int{math.MinInt, -1, 0, 16, 1 << 40, 1<<40 + 1, 1 << 50, 1<<50 + 1, math.MaxInt} {
				q := good
				q.Kind = k
				switch i {
				case 0:
					q.Key = strings.Repeat("n", max(0, n%40))
				case 1:
					q.ID = n
				case 2:
					q.N = n
				case 3:
					q.Until = n
				case 4:
					q.Peer = n
				case 5:
					q.Seq = n
				}
				m := model.New()
				reply, writes, messages, e := model.Do(m, q)
				if e != api.OK || (reply.E == api.ErrArg) == may(q) || reply.E == api.ErrArg && (reply != (api.Reply{E: api.ErrArg}) || len(writes)+len(messages) > 0) {
					t.Error(q, reply, e)
				}
				if l, e := model.Lines(m, q); e != api.OK || !may(q) && len(l) > 0 {
					t.Error(q, l, e)
				}
			}
		}
	}
	for _, k := range []api.AskKind{math.MinInt, -1, 0, 13, math.MaxInt} {
		q := good
		q.Kind = k
		if p, _ := model.New().Do(q); p != (api.Reply{E: api.ErrArg}) {
			t.Error(k, p)
		}
	}
}

func TestP24_1Limits(t *testing.T) {
	m := model.New()
	doing(t, m, grant("a", api.MaxTotal), api.Request{Kind: api.QQuota, Key: "a", N: 5})
	if p, _ := m.Do(grant("a", 1)); p.E != api.ErrOver {
		t.Error(p)
	}
	if p, _ := m.Do(api.Request{Kind: api.QReserve, Key: "a", N: 6, Until: 9}); p.E != api.ErrQuota {
		t.Error(p)
	}
	doing(t, m, api.Request{Kind: api.QReserve, Key: "a", N: 5, Until: api.MaxTime, ID: api.MaxTime})
	for i := range 64 {
		p, l := m.Do(api.Request{Kind: api.QSend, Key: "a", Peer: 15, N: 1})
		if p != (api.Reply{Seq: i}) || len(l) != 1 || l[0].Seq != i {
			t.Fatal(p, l)
		}
	}
	if p, l := m.Do(api.Request{Kind: api.QSend, Key: "a", Peer: 15, N: 1}); p.E != api.ErrCrowded || len(l) > 0 {
		t.Error(p)
	}
	doing(t, m, api.Request{Kind: api.QSend, Key: "a", Peer: 1, N: 1}, api.Request{Kind: api.QAcked, Peer: 15, Seq: 63}, api.Request{Kind: api.QSend, Key: "a", Peer: 15, N: 1})
	if l, e := model.Pending(m, 15); e != api.OK || len(l) != 64 || l[63].Seq != 64 {
		t.Error(l, e)
	}
	key, _ := outbox.NextKey(2)
	b, _ := outbox.NumBytes(api.MaxSeq)
	m.Apply(api.Write{Key: key, Val: b})
	if p, _ := m.Do(api.Request{Kind: api.QSend, Key: "a", Peer: 2, N: 1}); p.E != api.ErrMany {
		t.Error(p)
	}
	key, _ = outbox.InboxKey(2)
	b, _ = outbox.InboxBytes(api.Inbox{Floor: api.MaxSeq})
	m.Apply(api.Write{Key: key, Val: b})
	if p, l := m.Do(api.Request{Kind: api.QTake, Key: "b", Peer: 2, Seq: api.MaxSeq, N: 1}); p.E != api.ErrMany || len(l) > 0 {
		t.Error(p)
	}
}

func TestP24_1Expire(t *testing.T) {
	m := model.New()
	doing(t, m, grant("a", 1000))
	for i := range 40 {
		doing(t, m, api.Request{Kind: api.QReserve, Key: "a", ID: 100 - i, N: 1 + i, Until: 5 + i%2})
	}
	if p, _ := m.Do(api.Request{Kind: api.QExpire, Key: "a"}); p != (api.Reply{}) {
		t.Error(p)
	}
	doing(t, m, api.Request{Kind: api.QClock, N: 6})
	p, writes, _, e := model.Do(m, api.Request{Kind: api.QExpire, Key: "a"})
	if e != api.OK || len(writes) != 21 || p.N != 20*20 {
		t.Error(p, len(writes), e)
	}
	doing(t, m, api.Request{Kind: api.QClock, N: 7})
	p, writes, _, _ = model.Do(m, api.Request{Kind: api.QExpire, Key: "a"})
	want := 0
	for i := 8; i < 40; i++ {
		want += 1 + i
	}
	if len(writes) != 33 || p.N != want {
		t.Error(p, len(writes), want)
	}
	doing(t, m, api.Request{Kind: api.QExpire, Key: "a"})
	if p, _ := m.Do(api.Request{Kind: api.QExpire, Key: "a"}); p.N != 36 {
		t.Error(p)
	}
	if p, _ := m.Do(api.Request{Kind: api.QRead, Key: "a"}); p.Free != 1000 || p.Held != 0 {
		t.Error(p)
	}
}

func TestP24_1RowsThatAreAsFresh(t *testing.T) {
	m := model.New()
	doing(t, m, grant("a", 5), api.Request{Kind: api.QSpend, Key: "a", N: 5})
	if len(m.Rows()) > 0 {
		t.Error(m.Rows())
	}
	key, _ := outbox.AccountKey("a")
	b, _ := rights.AccountBytes(rights.Fresh())
	for _, q := range []api.Request{{Kind: api.QExpire, Key: "a"}, {Kind: api.QQuota, Key: "a", N: api.MaxTotal}} {
		m.Apply(api.Write{Key: key, Val: b})
		p, writes, _, e := model.Do(m, q)
		if p != (api.Reply{}) || e != api.OK || len(writes) != 1 || writes[0].Key != key || !writes[0].Del || len(writes[0].Val) > 0 {
			t.Error(q, p, writes, e)
		}
	}
	doing(t, m, grant("a", 5))
	for _, q := range []api.Request{{Kind: api.QExpire, Key: "a"}, {Kind: api.QQuota, Key: "a", N: api.MaxTotal}, {Kind: api.QClock}, {Kind: api.QRead, Key: "a"}} {
		if p, writes, _, e := model.Do(m, q); p.E != api.OK || e != api.OK || len(writes) > 0 {
			t.Error("a row that is the same is not written", q, writes)
		}
	}
}

// other is a view that tells as it is said.
type other struct {
	model.View
	get  func(key string) ([]byte, bool, api.Errno)
	scan func(low, high string) ([]api.KV, api.Errno)
}

// Get is the view's.
func (o other) Get(key string) ([]byte, bool, api.Errno) {
	if o.get != nil {
		return o.get(key)
	}
	return o.View.Get(key)
}

// Scan is the view's.
func (o other) Scan(low, high string) ([]api.KV, api.Errno) {
	if o.scan != nil {
		return o.scan(low, high)
	}
	return o.View.Scan(low, high)
}

// faulty tells whether Do and Lines tell just that error.
func faulty(v model.View, q api.Request, want api.Errno) bool {
	p, writes, messages, e := model.Do(v, q)
	l, e2 := model.Lines(v, q)
	return e == want && e2 == want && (e == api.OK || p == (api.Reply{}) && len(writes)+len(messages)+len(l) == 0)
}

func TestP24_2ErrorsOfTheView(t *testing.T) {
	m := model.New()
	doing(t, m, grant("a", 50), api.Request{Kind: api.QReserve, Key: "a", ID: 1, N: 1, Until: 9}, api.Request{Kind: api.QSend, Key: "a", Peer: 3, N: 1})
	all := []api.Request{grant("a", 1), {Kind: api.QSpend, Key: "a", N: 1}, {Kind: api.QReserve, Key: "a", ID: 2, N: 1, Until: 9}, {Kind: api.QConfirm, Key: "a", ID: 1}, {Kind: api.QCancel, Key: "a", ID: 1}, {Kind: api.QExpire, Key: "a"}, {Kind: api.QClock, N: 3}, {Kind: api.QQuota, Key: "a", N: 9}, {Kind: api.QSend, Key: "a", Peer: 3, N: 1}, {Kind: api.QAcked, Peer: 3}, {Kind: api.QTake, Peer: 3, Key: "a", N: 1}, {Kind: api.QRead, Key: "a"}}
	for _, q := range all {
		if !faulty(nil, q, api.ErrNil) || !faulty((*model.Model)(nil), q, api.ErrNil) || !faulty(&model.Model{}, q, api.ErrNil) {
			t.Error("no view", q)
		}
		if !faulty(m, q, api.OK) {
			t.Error(q)
		}
		broken := other{View: m, get: func(string) ([]byte, bool, api.Errno) { return []byte{1}, true, api.ErrRot }}
		if !faulty(broken, q, api.ErrRot) {
			t.Error(q)
		}
		noise := other{View: m, get: func(string) ([]byte, bool, api.Errno) { return []byte{255}, true, api.OK }}
		if !faulty(noise, q, api.ErrBox) {
			t.Error("rows that are not what they should be", q)
		}
		scans := other{View: m, scan: func(string, string) ([]api.KV, api.Errno) { return nil, api.ErrTable }}
		want := api.OK
		if q.Kind == api.QExpire || q.Kind == api.QSend {
			want = api.ErrTable
		}
		if !faulty(scans, q, want) {
			t.Error(q)
		}
	}
	if faulty(nil, api.Request{}, api.OK) || !faulty(nil, api.Request{}, api.ErrNil) || !faulty(other{View: nil, get: nil}, api.Request{}, api.OK) {
		t.Error("ErrNil is told first; of what is refused no row is read")
	}
	if _, e := model.Pending(nil, 99); e != api.ErrNil {
		t.Error(e)
	}
}

func TestP24_2WhatARefusalComesAheadOf(t *testing.T) {
	m := model.New()
	doing(t, m, grant("a", 5), api.Request{Kind: api.QClock, N: 7})
	read := map[string]int{}
	v := other{View: m, get: func(key string) ([]byte, bool, api.Errno) {
		read[key[:1]]++
		return m.Get(key)
	}, scan: func(low, high string) ([]api.KV, api.Errno) { return nil, api.ErrRot }}
	for _, x := range []struct {
		q    api.Request
		e    api.Errno
		rows string
	}{{api.Request{Kind: api.QReserve, Key: "a", N: 1, Until: 6}, api.ErrLate, "t"}, {api.Request{Kind: api.QConfirm, Key: "a"}, api.ErrNoHold, "h"}, {api.Request{Kind: api.QSend, Key: "a", Peer: 1, N: 6}, api.ErrShort, "a"}, {api.Request{Kind: api.QAcked, Peer: 1}, api.ErrNoOut, "o"}, {api.Request{Kind: api.QTake, Key: "a", Peer: 1, Seq: 64, N: 1}, api.ErrAhead, "i"}} {
		clear(read)
		if p, _, _, e := model.Do(v, x.q); p.E != x.e || e != api.OK || len(read) != 1 || read[x.rows] != 1 {
			t.Error(x, p, e, read)
		}
	}
}

func TestP24_2RowsThatAreNone(t *testing.T) {
	hold, _ := outbox.HoldKey("a", 1)
	odd, _ := code.Key("h", "a", "odd", "parts")
	h, _ := rights.HoldBytes(api.Hold{N: 2, Until: 3})
	for _, x := range []struct {
		l []api.Write
		q api.Request
		e api.Errno
	}{
		{[]api.Write{{Key: hold, Val: []byte{9}}}, api.Request{Kind: api.QExpire, Key: "a"}, api.ErrBox},
		{[]api.Write{{Key: odd, Val: []byte{9}}}, api.Request{Kind: api.QExpire, Key: "a"}, api.ErrBox},
		{[]api.Write{{Key: hold, Val: []byte{9}}}, api.Request{Kind: api.QExpire, Key: "b"}, api.OK},
		{[]api.Write{{Key: outbox.ClockKey(), Val: []byte{}}}, api.Request{Kind: api.QExpire, Key: "b"}, api.ErrBox},
		{[]api.Write{{Key: outbox.ClockKey(), Val: []byte{}}}, grant("b", 1), api.OK},
	} {
		m := model.New()
		doing(t, m, grant("a", 5))
		m.Apply(x.l...)
		if !faulty(m, x.q, x.e) {
			t.Error(x)
		}
	}
	m := model.New()
	doing(t, m, grant("a", 5), api.Request{Kind: api.QReserve, Key: "a", ID: 7, N: 5, Until: 3}, api.Request{Kind: api.QClock, N: 9})
	m.Apply(api.Write{Key: odd, Val: h})
	if p, writes, _, e := model.Do(m, api.Request{Kind: api.QExpire, Key: "a"}); e != api.OK || p.E != api.ErrShort || len(writes) > 0 {
		t.Error("all rows whose keys begin so are holds", p, e)
	}
	m.Apply(api.Write{Key: odd, Del: true})
	out, _ := code.Key("o", "\x03", "odd")
	for i := range 63 {
		key, _ := code.Key("o", "\x03", strconv.Itoa(i))
		m.Apply(api.Write{Key: key, Val: []byte{1}})
	}
	doing(t, m, grant("b", 5), api.Request{Kind: api.QSend, Key: "b", Peer: 3, N: 1})
	m.Apply(api.Write{Key: out, Val: []byte{1}})
	if p, _ := m.Do(api.Request{Kind: api.QSend, Key: "b", Peer: 3, N: 1}); p.E != api.ErrCrowded {
		t.Error("all rows whose keys begin so wait", p)
	}
}

func TestP24_2Writes(t *testing.T) {
	m := model.New()
	doing(t, m, grant("a", 50), api.Request{Kind: api.QReserve, Key: "a", ID: 1, N: 2, Until: 9})
	for _, q := range []api.Request{{Kind: api.QSend, Key: "a", Peer: 3, N: 1}, {Kind: api.QTake, Key: "a", Peer: 3, N: 1}, {Kind: api.QConfirm, Key: "a", ID: 1}, {Kind: api.QReserve, Key: "a", ID: 0, N: 2, Until: 9}} {
		was := m.Rows()
		_, writes, _, e := model.Do(m, q)
		if e != api.OK || len(writes) < 2 || !slices.IsSortedFunc(writes, func(a, b api.Write) int { return strings.Compare(a.Key, b.Key) }) {
			t.Error(q, writes)
		}
		if !sameRows(m.Rows(), was) {
			t.Error("Do writes nothing itself")
		}
		for _, w := range writes {
			if b, there, _ := m.Get(w.Key); w.Del && (!there || len(w.Val) > 0) || !w.Del && there && bytes.Equal(b, w.Val) {
				t.Error("another one, new or gone", w)
			}
		}
	}
}

func TestP24_4Pending(t *testing.T) {
	m := model.New()
	doing(t, m, grant("a", 50), grant("b", 50))
	for i := range 5 {
		doing(t, m, api.Request{Kind: api.QSend, Key: []string{"a", "b"}[i%2], Peer: 3, N: 1 + i}, api.Request{Kind: api.QSend, Key: "a", Peer: 4, N: 1})
	}
	doing(t, m, api.Request{Kind: api.QAcked, Peer: 3, Seq: 2})
	var want []api.Message
	for _, i := range []int{0, 1, 3, 4} {
		want = append(want, api.Message{Kind: api.MTransfer, Peer: 3, Seq: i, Key: []string{"a", "b"}[i%2], N: 1 + i})
	}
	if l, e := model.Pending(m, 3); e != api.OK || !slices.Equal(l, want) {
		t.Error(l, e)
	}
	if l, e := model.Pending(m, 5); e != api.OK || len(l) > 0 {
		t.Error(l, e)
	}
	for _, peer := range []int{math.MinInt, -1, 0, 16, math.MaxInt} {
		if l, e := model.Pending(m, peer); e != api.ErrArg || len(l) > 0 {
			t.Error(peer, e)
		}
	}
	if l, e := model.Pending(&model.Model{}, 3); e != api.ErrNil || len(l) > 0 {
		t.Error(e)
	}
	broken := other{View: m, scan: func(string, string) ([]api.KV, api.Errno) { return m.Rows(), api.ErrRot }}
	if l, e := model.Pending(broken, 3); e != api.ErrRot || len(l) > 0 {
		t.Error(e)
	}
	intent, _ := outbox.IntentBytes(api.Intent{Key: "a", N: 1})
	good, _ := outbox.OutKey(3, 9)
	for _, x := range []api.Write{{Key: good, Val: []byte{1}}, {Key: "o\x00\x01\x03\x00\x01", Val: intent}, {Key: "o\x00\x01\x03\x00\x01abc", Val: intent}} {
		o := m.Fork()
		o.Apply(x)
		if l, e := model.Pending(o, 3); e != api.ErrBox || len(l) > 0 {
			t.Error(x, l, e)
		}
		if l, e := model.Pending(o, 4); e != api.OK || len(l) != 5 {
			t.Error(l, e)
		}
	}
}

func TestP24_4Totals(t *testing.T) {
	if l, e := model.Totals(nil); e != api.OK || len(l) > 0 {
		t.Error(l, e)
	}
	m := model.New()
	doing(t, m, grant("a", 5), api.Request{Kind: api.QSend, Key: "a", Peer: 3, N: 2})
	if l, e := model.Totals(m.Rows()); e != api.OK || !slices.Equal(l, []api.Total{{Key: "a", Free: 3, Out: 2}}) {
		t.Error(l, e)
	}
	doing(t, m, api.Request{Kind: api.QAcked, Peer: 3}, grant("c", 1), api.Request{Kind: api.QSend, Key: "c", Peer: 3, N: 1}, api.Request{Kind: api.QReserve, Key: "a", N: 1, Until: 5}, api.Request{Kind: api.QQuota, Key: "b", N: 1}, api.Request{Kind: api.QClock, N: 4}, api.Request{Kind: api.QTake, Key: "d", Peer: 9, N: 8})
	want := []api.Total{{Key: "a", Free: 2, Held: 1}, {Key: "b"}, {Key: "c", Out: 1}, {Key: "d", Free: 8}}
	rows := m.Rows()
	slices.Reverse(rows)
	if l, e := model.Totals(rows); e != api.OK || !slices.Equal(l, want) {
		t.Error(l, e)
	}
	for i := range rows {
		bad := slices.Clone(rows)
		bad[i].Val = []byte{255}
		if l, e := model.Totals(bad); e != api.ErrBox || len(l) > 0 {
			t.Error("bytes", rows[i].Key, e)
		}
		if l, e := model.Totals(append(bad[:i:i], rows[i], rows[i])); e != api.ErrBox || len(l) > 0 {
			t.Error("twice", e)
		}
	}
	for _, key := range []string{"", "x", "h\x00\x01a\x00\x01", "o\x00\x01\x03\x00\x01"} {
		if l, e := model.Totals([]api.KV{{Key: key, Val: []byte{0}}}); e != api.ErrBox || len(l) > 0 {
			t.Error(key, e)
		}
	}
	var many []api.KV
	for i := range 1100 {
		key, _ := outbox.OutKey(1, i)
		b, _ := outbox.IntentBytes(api.Intent{Key: "a", N: api.MaxTotal})
		many = append(many, api.KV{Key: key, Val: b})
		if l, _ := model.Totals(many); l[0].Out != min(1<<60, (i+1)<<50) {
			t.Fatal(i, l)
		}
	}
}

func TestP24_5Model(t *testing.T) {
	m := model.New()
	if b, there, e := m.Get("a"); e != api.OK || there || len(b) > 0 || len(m.Rows()) > 0 {
		t.Error(b, e)
	}
	long := strings.Repeat("k", 64)
	for _, l := range [][]api.Write{{{Key: "b"}, {Key: ""}}, {{Key: "b"}, {Key: long + "k"}}, {{Key: "b"}, {Key: "c", Val: make([]byte, 257)}}, {{Key: "b"}, {Key: "c", Del: true, Val: []byte{1}}}} {
		if e := m.Apply(l...); e != api.ErrEntry || len(m.Rows()) > 0 {
			t.Error(e)
		}
	}
	if m.Apply() != api.OK || m.Apply(api.Write{Key: long, Val: make([]byte, 256)}, api.Write{Key: "b", Val: []byte("1")}, api.Write{Key: "b", Val: []byte("2")}, api.Write{Key: "a"}, api.Write{Key: "c"}, api.Write{Key: "c", Del: true}, api.Write{Key: "zz", Del: true}) != api.OK {
		t.Error("apply")
	}
	text := func(l []api.KV) string {
		s := ""
		for _, x := range l {
			s += x.Key[:1] + string(x.Val)[:min(1, len(x.Val))] + ";"
		}
		return s
	}
	if text(m.Rows()) != "a;b2;k\x00;" {
		t.Errorf("%q", text(m.Rows()))
	}
	for _, x := range [][3]string{{"", "", "a;b2;k\x00;"}, {"a", "b", "a;"}, {"a\x00", "", "b2;k\x00;"}, {"b", "b", ""}, {"b", "a", ""}, {"b", "b\x00", "b2;"}, {"l", "", ""}} {
		if l, e := m.Scan(x[0], x[1]); e != api.OK || text(l) != x[2] {
			t.Error(x, text(l))
		}
	}
	if b, there, e := m.Get("a"); e != api.OK || !there || len(b) > 0 {
		t.Error(b, there, e)
	}
	o := m.Fork()
	if !o.Same(m) || !m.Same(o) || !m.Same(m) {
		t.Error("a fork is the same")
	}
	o.Apply(api.Write{Key: "b", Val: []byte("3")})
	if o.Same(m) || m.Same(o) || text(m.Rows()) != "a;b2;k\x00;" {
		t.Error("a fork goes its own way")
	}
	o.Apply(api.Write{Key: "b", Val: []byte("2")}, api.Write{Key: "d"})
	if o.Same(m) || m.Same(o) {
		t.Error("a row more")
	}
	bad := model.New()
	bad.Apply(api.Write{Key: outbox.ClockKey(), Val: []byte{128}})
	if p, l := bad.Do(api.Request{Kind: api.QClock, N: 1}); p != (api.Reply{E: api.ErrBox}) || len(l) > 0 {
		t.Error(p)
	}
}

func TestRulesNobodyMadeIt(t *testing.T) {
	for _, m := range []*model.Model{nil, {}} {
		b, there, e := m.Get("a")
		l, e2 := m.Scan("", "")
		p, q := m.Do(api.Request{})
		if e != api.ErrNil || there || len(b) > 0 || e2 != api.ErrNil || len(l) > 0 || p != (api.Reply{E: api.ErrNil}) || len(q) > 0 || m.Apply() != api.ErrNil || m.Apply(api.Write{}) != api.ErrNil || len(m.Rows()) > 0 || m.Fork() != nil || m.Same(m) || m.Same(model.New()) || model.New().Same(m) {
			t.Error("zero values")
		}
	}
}

func TestP24_6NothingIsMadeOrLost(t *testing.T) {
	r := rand.New(rand.NewPCG(24, 6))
	for range 60 {
		m := model.New()
		var book []api.Total
		for range 200 {
			q := some(r)
			ahead, _ := model.Totals(m.Rows())
			lines, _ := model.Lines(m, q)
			m.Do(q)
			behind, e := model.Totals(m.Rows())
			want := ahead
			for _, l := range lines {
				want, e = books.Add(want, l)
				if e == api.OK {
					book, e = books.Add(book, l)
				}
			}
			if e != api.OK || !books.Same(behind, want) || !books.Same(behind, book) {
				t.Fatal(q, ahead, behind, lines, e)
			}
		}
	}
}

func TestP24_7EachOnce(t *testing.T) {
	r := rand.New(rand.NewPCG(24, 7))
	for range 100 {
		m := model.New()
		credited := map[[2]int]int{}
		sum := 0
		for range 300 {
			q := api.Request{Kind: api.QTake, Peer: 1 + r.IntN(3), Seq: r.IntN(90), Key: "a", N: 1 + r.IntN(5)}
			lines, _ := model.Lines(m, q)
			p, l := m.Do(q)
			if len(lines) > 0 {
				credited[[2]int{q.Peer, q.Seq}]++
				sum += q.N
			}
			ack := slices.Equal(l, []api.Message{{Kind: api.MAck, Peer: q.Peer, Seq: q.Seq}})
			if credited[[2]int{q.Peer, q.Seq}] > 1 || ack != (p.E == api.OK || p.E == api.ErrKnown) || (p.E == api.OK) != (len(lines) > 0) || p.E != api.OK && p.E != api.ErrKnown && p.E != api.ErrAhead {
				t.Fatal(q, p, l)
			}
		}
		if p, _ := m.Do(api.Request{Kind: api.QRead, Key: "a"}); p.Free != sum {
			t.Fatal(p, sum)
		}
	}
}

func TestP24_8TheSameAgain(t *testing.T) {
	r := rand.New(rand.NewPCG(24, 8))
	m := model.New()
	sent := map[int][]api.Message{}
	for range 1500 {
		q := some(r)
		p, l := m.Do(q)
		if q.Kind == api.QSend {
			sent[q.Peer] = append(sent[q.Peer], l...)
		}
		if q.Kind == api.QAcked && p.E == api.OK {
			sent[q.Peer] = slices.DeleteFunc(sent[q.Peer], func(x api.Message) bool { return x.Seq == q.Seq })
		}
		for peer := 1; peer < 4; peer++ {
			if l, e := model.Pending(m, peer); e != api.OK || !slices.Equal(l, sent[peer]) {
				t.Fatal(q, l, sent[peer])
			}
		}
	}
}

func TestP24_9Refused(t *testing.T) {
	r := rand.New(rand.NewPCG(24, 9))
	m := model.New()
	for range 3000 {
		q := some(r)
		p, writes, _, e := model.Do(m, q)
		was := m.Fork()
		got, _ := m.Do(q)
		if e != api.OK || got != p || p.E != api.OK && (len(writes) > 0 || !m.Same(was) || p != (api.Reply{E: p.E})) {
			t.Fatal(q, p, writes)
		}
		if p.E == api.OK && m.Same(was) != (len(writes) == 0) {
			t.Fatal(q, writes)
		}
	}
}

func TestP24_10Own(t *testing.T) {
	m := model.New()
	b := []byte("abc")
	m.Apply(api.Write{Key: "k", Val: b}, api.Write{Key: "l", Val: b})
	b[0] = 'z'
	got, _, _ := m.Get("k")
	got[0] = 'y'
	l, _ := m.Scan("", "")
	l[0].Val[0] = 'x'
	m.Rows()[1].Val[0] = 'w'
	o := m.Fork()
	o.Rows()[0].Val[1] = 'v'
	if x := m.Rows(); string(x[0].Val) != "abc" || string(x[1].Val) != "abc" || !o.Same(m) {
		t.Error(m.Rows())
	}
	kept := []byte{5, 0, 7}
	v := other{View: model.New(), get: func(string) ([]byte, bool, api.Errno) { return kept, true, api.OK }}
	_, writes, _, _ := model.Do(v, grant("a", 1))
	if !reflect.DeepEqual(kept, []byte{5, 0, 7}) || len(writes) != 1 || !bytes.Equal(writes[0].Val, []byte{6, 0, 7}) {
		t.Error(kept, writes)
	}
	rows := []api.KV{{Key: "o\x00\x01\x01\x00\x01x", Val: []byte{1}}, {Key: "a", Val: nil}}
	was := slices.Clone(rows)
	w := other{View: m, scan: func(string, string) ([]api.KV, api.Errno) { return rows, api.OK }}
	model.Pending(w, 1)
	model.Do(w, api.Request{Kind: api.QExpire, Key: "a"})
	if !sameRows(rows, was) {
		t.Error("what a view told is changed")
	}
}

func TestRulesWhateverAViewTells(t *testing.T) {
	r := rand.New(rand.NewPCG(24, 11))
	m := model.New()
	bad := func(key string) []byte {
		b := make([]byte, r.IntN(4))
		for i := range b {
			b[i] = byte(r.IntN(3))
		}
		return b
	}
	v := other{View: m, get: func(key string) ([]byte, bool, api.Errno) { return bad(key), r.IntN(2) == 0, api.Errno(r.IntN(8) / 7) }, scan: func(low, high string) ([]api.KV, api.Errno) {
		var l []api.KV
		for range r.IntN(80) {
			l = append(l, api.KV{Key: low + string(bad("")), Val: bad("")})
		}
		return l, api.Errno(r.IntN(8) / 7)
	}}
	for range 20000 {
		q := some(r)
		model.Do(v, q)
		model.Lines(v, q)
		model.Pending(v, r.IntN(5))
	}
}
