package wire_test

import (
	"bytes"
	"encoding/binary"
	"math"
	"math/rand/v2"
	"strings"
	"testing"

	"lien/api"
	"lien/wire"
)

// nums are numbers' bytes by the chapter's words; a text stands as its length, and it.
func nums(l ...any) []byte {
	var b []byte
	for _, x := range l {
		switch v := x.(type) {
		case int:
			b = binary.AppendUvarint(b, uint64(v))
		case uint64:
			b = binary.AppendUvarint(b, v)
		case string:
			b = append(binary.AppendUvarint(b, uint64(len(v))), v...)
		}
	}
	return b
}

// asked are requests of all kinds, with their bytes.
func asked(key string, id, n, until, peer, seq int) ([]api.Request, [][]byte) {
	return []api.Request{
		{Kind: api.QGrant, Key: key, N: n}, {Kind: api.QSpend, Key: key, N: n}, {Kind: api.QReserve, Key: key, ID: id, N: n, Until: until}, {Kind: api.QConfirm, Key: key, ID: id}, {Kind: api.QCancel, Key: key, ID: id}, {Kind: api.QExpire, Key: key},
		{Kind: api.QClock, N: n}, {Kind: api.QQuota, Key: key, N: n}, {Kind: api.QSend, Key: key, Peer: peer, N: n}, {Kind: api.QAcked, Peer: peer, Seq: seq}, {Kind: api.QTake, Peer: peer, Seq: seq, Key: key, N: n}, {Kind: api.QRead, Key: key},
	}, [][]byte{
		nums(1, key, n), nums(2, key, n), nums(3, key, id, n, until), nums(4, key, id), nums(5, key, id), nums(6, key), nums(7, n), nums(8, key, n), nums(9, key, peer, n), nums(10, peer, seq), nums(11, peer, seq, key, n), nums(12, key),
	}
}

// told are messages of all kinds, with their bytes.
func told(key string, n, peer, seq int) ([]api.Message, [][]byte) {
	return []api.Message{{Kind: api.MTransfer, Peer: peer, Seq: seq, Key: key, N: n}, {Kind: api.MAck, Peer: peer, Seq: seq}}, [][]byte{nums(1, peer, seq, key, n), nums(2, peer, seq)}
}

// values are fields' values at the edges.
func values() []int { return []int{0, 1, 127, 128, 300, 1 << 40, math.MaxInt} }

func TestP22_1And2Requests(t *testing.T) {
	if b, e := wire.Bytes(api.Request{Kind: api.QSpend, Key: "a", N: 300}); e != api.OK || !bytes.Equal(b, []byte{2, 1, 97, 172, 2}) {
		t.Error(b, e)
	}
	for _, key := range []string{"", "a", "\x00\xff", strings.Repeat("k", 4096)} {
		for i, n := range values() {
			v := values()
			l, want := asked(key, v[(i+1)%7], n, v[(i+2)%7], v[(i+3)%7], v[(i+4)%7])
			for k, r := range l {
				if b, e := wire.Bytes(r); e != api.OK || !bytes.Equal(b, want[k]) {
					t.Fatal(r.Kind, b, e)
				}
				if got, e := wire.Read(want[k]); e != api.OK || got != r {
					t.Fatal(r.Kind, got, e)
				}
			}
		}
	}
}

// noRequest fails, if a request may be written.
func noRequest(t *testing.T, r api.Request) {
	t.Helper()
	if b, e := wire.Bytes(r); e != api.ErrWire || len(b) > 0 {
		t.Error(r.Kind, b, e)
	}
}

func TestP22_1RequestsRefused(t *testing.T) {
	for _, k := range []api.AskKind{math.MinInt, -1, 0, 13, math.MaxInt} {
		noRequest(t, api.Request{Kind: k})
		noRequest(t, api.Request{Kind: k, Key: "a", N: 1})
	}
	full := api.Request{Key: "a", ID: 1, N: 1, Until: 1, Peer: 1, Seq: 1}
	plain, _ := asked("a", 1, 1, 1, 1, 1)
	for _, want := range plain {
		for i := range 6 {
			for _, n := range []int{-1, math.MinInt, 1} {
				r := want
				has := []bool{want.Key != "", want.ID != 0, want.N != 0, want.Until != 0, want.Peer != 0, want.Seq != 0}[i]
				switch i {
				case 0:
					r.Key = strings.Repeat("k", 4097)
				case 1:
					r.ID = n
				case 2:
					r.N = n
				case 3:
					r.Until = n
				case 4:
					r.Peer = n
				case 5:
					r.Seq = n
				}
				if !has || n < 0 || i == 0 {
					noRequest(t, r)
				}
			}
		}
		full.Kind = want.Kind
		noRequest(t, full)
		r := want
		if r.Key == "" {
			r.Key = "a"
			noRequest(t, r)
		}
	}
}

// noneRead fails, if bytes are those of a request.
func noneRead(t *testing.T, b []byte) {
	t.Helper()
	if r, e := wire.Read(b); e != api.ErrWire || r != (api.Request{}) {
		t.Error(b, r, e)
	}
}

func TestP22_2RequestsRefused(t *testing.T) {
	_, l := asked("ab", 5, 300, 7, 3, 200)
	for _, b := range l {
		for i := range b {
			noneRead(t, b[:i])
		}
		noneRead(t, append(bytes.Clone(b), 0))
		noneRead(t, append([]byte{b[0] | 128, 0}, b[1:]...))
	}
	for _, b := range [][]byte{nil, {0}, {13}, {0, 1, 97, 1}, {13, 1, 97, 1}, {255}, {129, 0}, nums(1<<40, "a", 1), nums(uint64(math.MaxUint64), "a", 1), nums(1, "a", uint64(1<<63)), nums(1, "a", uint64(math.MaxUint64)), nums(7, uint64(1<<63)), nums(uint64(1<<63|1), "a", 1), nums(6, strings.Repeat("k", 4097)), {1, 1, 97, 128, 0}, {1, 129, 0, 97, 1}} {
		noneRead(t, b)
	}
}

func TestP22_1And2Replies(t *testing.T) {
	for i, n := range values() {
		v := values()
		for _, p := range []api.Reply{{N: n, Seq: v[(i+1)%7], Free: v[(i+2)%7], Held: v[(i+3)%7]}, {E: api.Errno(n)}} {
			want := nums(int(p.E), p.N, p.Seq, p.Free, p.Held)
			if b, e := wire.ReplyBytes(p); e != api.OK || !bytes.Equal(b, want) {
				t.Error(p, b, e)
			}
			if got, e := wire.ReadReply(want); e != api.OK || got != p {
				t.Error(got, e)
			}
		}
	}
	for _, p := range []api.Reply{{E: -1}, {E: math.MinInt}, {N: -1}, {Seq: -1}, {Free: -1}, {Held: math.MinInt}, {E: 1, N: 1}, {E: 1, Seq: 1}, {E: 1, Free: 1}, {E: 1, Held: 1}, {E: -1, N: 1}} {
		if b, e := wire.ReplyBytes(p); e != api.ErrWire || len(b) > 0 {
			t.Error(p, e)
		}
	}
	for _, b := range [][]byte{nil, {0}, {0, 0, 0, 0}, {0, 0, 0, 0, 0, 0}, {1, 1, 0, 0, 0}, {1, 0, 1, 0, 0}, {1, 0, 0, 1, 0}, {1, 0, 0, 0, 1}, {128, 0, 0, 0, 0, 0}, {0, 0, 0, 0, 128, 0}, nums(uint64(1<<63), 0, 0, 0, 0), nums(0, 0, 0, 0, uint64(math.MaxUint64))} {
		if p, e := wire.ReadReply(b); e != api.ErrWire || p != (api.Reply{}) {
			t.Error(b, p, e)
		}
	}
}

func TestP22_1And2Messages(t *testing.T) {
	for _, key := range []string{"", "a", strings.Repeat("k", 4096)} {
		for i, n := range values() {
			v := values()
			l, want := told(key, n, v[(i+1)%7], v[(i+2)%7])
			for k, m := range l {
				if b, e := wire.MsgBytes(m); e != api.OK || !bytes.Equal(b, want[k]) {
					t.Fatal(m, b, e)
				}
				if got, e := wire.ReadMsg(want[k]); e != api.OK || got != m {
					t.Fatal(got, e)
				}
			}
		}
	}
	if b, _ := wire.MsgBytes(api.Message{Kind: api.MAck, Peer: 3, Seq: 5}); !bytes.Equal(b, []byte{2, 3, 5}) {
		t.Error(b)
	}
	for _, m := range []api.Message{
		{}, {Kind: 3}, {Kind: -1}, {Kind: math.MinInt}, {Kind: math.MaxInt}, {Kind: 1, Peer: -1}, {Kind: 1, Seq: -1}, {Kind: 1, N: -1}, {Kind: 1, Key: strings.Repeat("k", 4097)}, {Kind: 2, Peer: -1}, {Kind: 2, Seq: math.MinInt}, {Kind: 2, Key: "a"}, {Kind: 2, N: 1}, {Kind: 2, N: -1}, {Kind: 0, Peer: 1},
	} {
		if b, e := wire.MsgBytes(m); e != api.ErrWire || len(b) > 0 {
			t.Error(m.Kind, e)
		}
	}
	for _, b := range [][]byte{nil, {0}, {1}, {2}, {3, 1, 1}, {2, 3}, {2, 3, 5, 0}, {1, 3, 5, 1, 97}, {1, 3, 5, 1, 97, 2, 0}, {130, 0, 3, 5}, {2, 131, 0, 5}, {0, 3, 5}, nums(2, uint64(1<<63), 1), nums(1, 3, 5, "a", uint64(math.MaxUint64)), nums(1, 3, 5, strings.Repeat("k", 4097), 1)} {
		if m, e := wire.ReadMsg(b); e != api.ErrWire || m != (api.Message{}) {
			t.Error(b, m, e)
		}
	}
}

func TestP22_3And4AnyBytes(t *testing.T) {
	r := rand.New(rand.NewPCG(22, 3))
	read := 0
	for range 300000 {
		b := make([]byte, r.IntN(9))
		for i := range b {
			b[i] = []byte{0, 1, 2, 3, 4, 7, 9, 11, 97, 128, 129, 255}[r.IntN(12)]
		}
		if q, e := wire.Read(b); e == api.OK {
			read++
			if again, e := wire.Bytes(q); e != api.OK || !bytes.Equal(again, b) {
				t.Fatal(b, q)
			}
		} else if e != api.ErrWire {
			t.Fatal(e)
		}
		if p, e := wire.ReadReply(b); e == api.OK {
			read++
			if again, e := wire.ReplyBytes(p); e != api.OK || !bytes.Equal(again, b) {
				t.Fatal(b, p)
			}
		}
		if m, e := wire.ReadMsg(b); e == api.OK {
			read++
			if again, e := wire.MsgBytes(m); e != api.OK || !bytes.Equal(again, b) {
				t.Fatal(b, m)
			}
		}
	}
	if read < 10000 {
		t.Error(read)
	}
}

func TestP22_3ThereAndBack(t *testing.T) {
	r := rand.New(rand.NewPCG(22, 4))
	num := func() int { return r.IntN(1 << r.IntN(63)) }
	for range 20000 {
		key := strings.Repeat(string([]byte{byte(r.Uint32())}), r.IntN(20))
		l, _ := asked(key, num(), num(), num(), num(), num())
		q := l[r.IntN(len(l))]
		b, e := wire.Bytes(q)
		if got, e2 := wire.Read(b); e != api.OK || e2 != api.OK || got != q {
			t.Fatal(q, got)
		}
	}
}

func TestRulesNothingIsChanged(t *testing.T) {
	b := nums(3, "key", 1, 2, 3)
	was := bytes.Clone(b)
	r, _ := wire.Read(b)
	for i := range b {
		if b[i] != was[i] {
			t.Fatal("an argument is changed")
		}
		b[i] = 'x'
	}
	if r.Key != "key" {
		t.Error(r)
	}
	one, _ := wire.Bytes(r)
	two, _ := wire.Bytes(r)
	one[0] = 99
	if !bytes.Equal(two, was) {
		t.Error("two answers share memory")
	}
}
