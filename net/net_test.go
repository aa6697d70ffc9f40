package net_test

import (
	"math"
	"math/rand/v2"
	"slices"
	"strconv"
	"strings"
	"testing"

	"lien/api"
	"lien/net"
)

// mail is one of a text.
func mail(text string) api.Mail { return api.Mail{From: 0, To: 3, Text: text} }

// all are all mails of a net, in order.
func all(t *testing.T, n *net.Net) []api.Mail {
	t.Helper()
	var l []api.Mail
	for i := range n.Len() {
		m, e := n.At(i)
		if e != api.OK {
			t.Fatal(e)
		}
		l = append(l, m)
	}
	return l
}

func TestP26_1Send(t *testing.T) {
	n := net.New()
	if n.Len() != 0 {
		t.Error(n.Len())
	}
	long := strings.Repeat("x", 4096)
	for _, m := range []api.Mail{{From: 0, To: 15, Text: long}, {From: 15, To: 0}, {From: 1, To: 2, Text: "a"}} {
		if n.Send(m) != api.OK {
			t.Error(m)
		}
	}
	for _, m := range []api.Mail{{}, {From: 3, To: 3}, {From: -1, To: 1}, {From: 1, To: -1}, {From: 16, To: 1}, {From: 1, To: 16}, {From: math.MinInt, To: math.MaxInt}, {From: 0, To: 1, Text: long + "x"}} {
		if n.Send(m) != api.ErrNet || n.Len() != 3 {
			t.Error(m)
		}
	}
	if l := all(t, n); l[0].Text != long || l[1] != (api.Mail{From: 15}) || l[2].Text != "a" {
		t.Error("in order")
	}
	for n.Len() < 256 {
		if n.Send(mail(strconv.Itoa(n.Len()))) != api.OK {
			t.Fatal(n.Len())
		}
	}
	if n.Send(mail("x")) != api.ErrMany || n.Send(api.Mail{}) != api.ErrNet || n.Len() != 256 || n.Twin(0) != api.ErrMany || n.Twin(256) != api.ErrRange {
		t.Error("full")
	}
	if n.Lose(0) != api.OK || n.Twin(254) != api.OK || n.Len() != 256 {
		t.Error("room again")
	}
}

func TestP26_1And2Ranges(t *testing.T) {
	n := net.New()
	n.Send(mail("a"))
	n.Send(mail("b"))
	for _, i := range []int{math.MinInt, -1, 2, math.MaxInt} {
		a, e := n.At(i)
		b, e2 := n.Take(i)
		if e != api.ErrRange || e2 != api.ErrRange || n.Lose(i) != api.ErrRange || n.Twin(i) != api.ErrRange || a != (api.Mail{}) || b != (api.Mail{}) || n.Len() != 2 {
			t.Error(i)
		}
	}
	for _, n := range []*net.Net{nil, {}} {
		a, e := n.At(0)
		b, e2 := n.Take(-1)
		if e != api.ErrNil || e2 != api.ErrNil || n.Lose(0) != api.ErrNil || n.Twin(0) != api.ErrNil || n.Send(api.Mail{}) != api.ErrNil || n.Len() != 0 || a != (api.Mail{}) || b != (api.Mail{}) {
			t.Error("nobody made it")
		}
	}
}

func TestP26_2TakeLoseTwin(t *testing.T) {
	n := net.New()
	for _, x := range []string{"a", "b", "c", "d"} {
		n.Send(mail(x))
	}
	if n.Twin(1) != api.OK || n.Lose(2) != api.OK {
		t.Error("twin, lose")
	}
	if m, e := n.Take(0); e != api.OK || m != mail("a") {
		t.Error(m, e)
	}
	if !slices.Equal(all(t, n), []api.Mail{mail("b"), mail("d"), mail("b")}) {
		t.Error(all(t, n))
	}
}

func TestP26_7Kept(t *testing.T) {
	r := rand.New(rand.NewPCG(26, 7))
	for range 200 {
		n := net.New()
		var want []api.Mail
		for k := range 200 {
			i := r.IntN(len(want) + 1)
			e := api.OK
			switch r.IntN(5) {
			case 0:
				if i < len(want) {
					m, e := n.Take(i)
					if e != api.OK || m != want[i] {
						t.Fatal(m, e)
					}
					want = slices.Delete(want, i, i+1)
				}
			case 1:
				if i < len(want) {
					e = n.Lose(i)
					want = slices.Delete(want, i, i+1)
				}
			case 2:
				if i < len(want) {
					e = n.Twin(i)
					want = append(want, want[i])
				}
			default:
				m := api.Mail{From: r.IntN(8), To: 8 + r.IntN(8), Text: strconv.Itoa(k)}
				e = n.Send(m)
				want = append(want, m)
			}
			if e != api.OK || !slices.Equal(all(t, n), want) {
				t.Fatal(e)
			}
		}
	}
}

// made is a peer that must be made.
func made(t *testing.T, n int) *net.Peer {
	t.Helper()
	p, e := net.NewPeer(n)
	if e != api.OK || p == nil {
		t.Fatal(e)
	}
	return p
}

func TestP26_3NewPeerAndOffer(t *testing.T) {
	for _, n := range []int{math.MinInt, -1, 0, 16, math.MaxInt} {
		if p, e := net.NewPeer(n); e != api.ErrPeer || p != nil {
			t.Error(n, e)
		}
	}
	for _, n := range []int{1, 7, 15} {
		p := made(t, n)
		if len(p.Again())+len(p.Got())+len(p.Sent()) > 0 {
			t.Error("nothing yet")
		}
		if m, e := p.Offer("a", 5); e != api.OK || m != (api.Message{Kind: api.MTransfer, Peer: n, Key: "a", N: 5}) {
			t.Error(m, e)
		}
		if m, e := p.Offer(strings.Repeat("n", 16), api.MaxTotal); e != api.OK || m.Seq != 1 {
			t.Error(m, e)
		}
	}
	p := made(t, 3)
	for _, x := range []struct {
		key string
		n   int
	}{{"", 1}, {strings.Repeat("n", 17), 1}, {"a", 0}, {"a", -1}, {"a", api.MaxTotal + 1}, {"a", math.MaxInt}, {"a", math.MinInt}} {
		if m, e := p.Offer(x.key, x.n); e != api.ErrArg || m != (api.Message{}) || len(p.Sent()) > 0 {
			t.Error(x, e)
		}
	}
	for i := range 64 {
		if m, e := p.Offer("a", 1); e != api.OK || m.Seq != i {
			t.Fatal(m, e)
		}
	}
	if m, e := p.Offer("a", 1); e != api.ErrCrowded || m != (api.Message{}) || len(p.Sent()) != 64 {
		t.Error(e)
	}
	if _, e := p.Offer("", 1); e != api.ErrArg {
		t.Error(e)
	}
	p.Hear(api.Message{Kind: api.MAck, Peer: 3, Seq: 5})
	p.Hear(api.Message{Kind: api.MAck, Peer: 3, Seq: 5})
	if m, e := p.Offer("a", 1); e != api.OK || m.Seq != 64 || len(p.Again()) != 64 || len(p.Sent()) != 65 {
		t.Error(m, e)
	}
	if _, e := p.Offer("a", 1); e != api.ErrCrowded {
		t.Error(e)
	}
}

func TestP26_4Hear(t *testing.T) {
	p := made(t, 3)
	p.Offer("a", 1)
	p.Offer("a", 2)
	for _, m := range []api.Message{
		{}, {Kind: api.MTransfer, Peer: 4, Key: "a", N: 1}, {Kind: api.MTransfer, Peer: 3, Seq: -1, Key: "a", N: 1}, {Kind: api.MTransfer, Peer: 3, Seq: math.MinInt}, {Kind: 3, Peer: 3}, {Kind: -1, Peer: 3}, {Kind: 0, Peer: 3}, {Kind: api.MAck, Peer: 4}, {Kind: api.MAck, Peer: 3, Seq: -1}, {Kind: api.MAck, Peer: 3, Seq: 2}, {Kind: api.MAck, Peer: 3, Seq: math.MaxInt},
	} {
		if a, ok := p.Hear(m); ok || a != (api.Message{}) || len(p.Got()) > 0 || len(p.Again()) != 2 {
			t.Error(m, a, ok)
		}
	}
	first := api.Message{Kind: api.MTransfer, Peer: 3, Seq: 7, Key: "b", N: 4}
	for _, m := range []api.Message{first, {Kind: api.MTransfer, Peer: 3, Seq: 7, Key: "c", N: 9}, first} {
		if a, ok := p.Hear(m); !ok || a != (api.Message{Kind: api.MAck, Peer: 3, Seq: 7}) || !slices.Equal(p.Got(), []api.Message{first}) {
			t.Error(m, a, ok)
		}
	}
	odd := api.Message{Kind: api.MTransfer, Peer: 3, Seq: math.MaxInt, N: -5}
	if a, ok := p.Hear(odd); !ok || a.Seq != math.MaxInt || !slices.Equal(p.Got(), []api.Message{first, odd}) {
		t.Error(a, ok)
	}
	if a, ok := p.Hear(api.Message{Kind: api.MAck, Peer: 3}); ok || a != (api.Message{}) || len(p.Again()) != 1 || p.Again()[0].N != 2 || len(p.Sent()) != 2 {
		t.Error(a, ok)
	}
}

func TestP26_5Peers(t *testing.T) {
	for _, p := range []*net.Peer{nil, {}} {
		m, e := p.Offer("", 0)
		a, ok := p.Hear(api.Message{Kind: api.MTransfer})
		if e != api.ErrNil || m != (api.Message{}) || ok || a != (api.Message{}) || len(p.Again())+len(p.Got())+len(p.Sent()) > 0 {
			t.Error("nobody made it")
		}
	}
	p := made(t, 3)
	var sent []api.Message
	for i := range 40 {
		m, _ := p.Offer("a", 1+i)
		sent = append(sent, m)
	}
	for _, i := range []int{39, 0, 20, 21} {
		p.Hear(api.Message{Kind: api.MAck, Peer: 3, Seq: i})
	}
	again := slices.Concat(sent[1:20], sent[22:39])
	if !slices.Equal(p.Again(), again) || !slices.Equal(p.Sent(), sent) {
		t.Error(p.Again())
	}
	l, k := p.Again(), p.Sent()
	l[0].N, k[0].N = 99, 99
	if !slices.Equal(p.Again(), again) || !slices.Equal(p.Sent(), sent) {
		t.Error("what is told is one's own")
	}
}

func TestP26_6EachOnce(t *testing.T) {
	r := rand.New(rand.NewPCG(26, 6))
	for range 200 {
		p := made(t, 5)
		first := map[int]api.Message{}
		for range 150 {
			m := api.Message{Kind: api.MTransfer, Peer: 5, Seq: r.IntN(40), Key: "a", N: r.IntN(9)}
			if _, had := first[m.Seq]; !had {
				first[m.Seq] = m
			}
			if a, ok := p.Hear(m); !ok || a != (api.Message{Kind: api.MAck, Peer: 5, Seq: m.Seq}) {
				t.Fatal(a)
			}
		}
		got := p.Got()
		if len(got) != len(first) || !slices.IsSortedFunc(got, func(a, b api.Message) int { return a.Seq - b.Seq }) {
			t.Fatal(got)
		}
		for _, m := range got {
			if m != first[m.Seq] {
				t.Fatal(m)
			}
		}
	}
}
