package play_test

import (
	"fmt"
	"math"
	"math/rand/v2"
	"reflect"
	"slices"
	"strings"
	"testing"

	"lien/api"
	"lien/play"
	"lien/wire"
	"lien/world"
)

// small are settings under which much happens soon.
func small() api.Conf { return api.Conf{Mem: 4, LogPairs: 1, ManPairs: 1, TableBytes: 256} }

// all is a script with a deed of each kind.
func all() api.Script {
	return api.Script{Sectors: 516, Conf: small(), Deeds: []api.Deed{
		{Kind: api.DAsk, Text: "\x01\x01a\xff"}, {Kind: api.DAsk}, {Kind: api.DSync}, {Kind: api.DTick}, {Kind: api.DFlush}, {Kind: api.DCompact}, {Kind: api.DScrub}, {Kind: api.DResend, A: 3}, {Kind: api.DOffer, A: 1, B: 22, Text: "q"}, {Kind: api.DAgain, A: -4}, {Kind: api.DCome, A: 5}, {Kind: api.DLose, A: 1 << 40}, {Kind: api.DTwin, A: -1 << 40}, {Kind: api.DFuse},
		{Kind: api.DCrash}, {Kind: api.DCrash, Fates: []api.Fate{{Keep: 1}, {Keep: 10, Cut: -2}}}, {Kind: api.DRot, A: 7, B: 8, C: 9},
	}}
}

// allText is its text.
const allText = "lien 516 4 1 1 256\nask =010161ff\nask =\nsync\ntick\nflush\ncompact\nscrub\nresend 3\noffer 1 22 =71\nagain -4\ncome 5\nlose 1099511627776\ntwin -1099511627776\nfuse 0\ncrash\ncrash 1 0 10 -2\nrot 7 8 9\n"

// with is all, with one more deed.
func with(d api.Deed) api.Script {
	s := all()
	s.Deeds = append(s.Deeds, d)
	return s
}

// bad are scripts that may not be written.
func bad() []api.Script {
	var l []api.Script
	for _, k := range []api.DeedKind{math.MinInt, -1, 0, 16, math.MaxInt} {
		l = append(l, with(api.Deed{Kind: k}))
	}
	named := map[api.DeedKind]string{api.DAsk: "T", api.DResend: "A", api.DOffer: "ABT", api.DAgain: "A", api.DCome: "A", api.DLose: "A", api.DTwin: "A", api.DFuse: "A", api.DCrash: "F", api.DRot: "ABC"}
	for k := api.DAsk; k <= api.DRot; k++ {
		for _, n := range []int{1, -1, 1<<40 + 1, -1<<40 - 1, math.MinInt, math.MaxInt} {
			far := n > 1<<40 || n < -1<<40
			for i, d := range []api.Deed{{A: n}, {B: n}, {C: n}, {Text: "x"}, {Fates: []api.Fate{{}}}, {Fates: []api.Fate{{}, {Keep: n}}}, {Fates: []api.Fate{{Cut: n}}}} {
				d.Kind = k
				has := strings.Contains(named[k], []string{"A", "B", "C", "T", "F", "F", "F"}[i])
				if !has || far && i != 3 && i != 4 {
					l = append(l, with(d))
				}
			}
		}
	}
	for _, n := range []int{1<<40 + 1, -1<<40 - 1, math.MinInt, math.MaxInt} {
		a, b, c, d, e := all(), all(), all(), all(), all()
		a.Sectors, b.Conf.Mem, c.Conf.LogPairs, d.Conf.ManPairs, e.Conf.TableBytes = n, n, n, n, n
		l = append(l, a, b, c, d, e)
	}
	return l
}

func TestP28_1Check(t *testing.T) {
	odd := api.Script{Sectors: 1 << 40, Conf: api.Conf{Mem: -1 << 40, LogPairs: 1 << 40, ManPairs: -1 << 40, TableBytes: 1 << 40}}
	for i, s := range []api.Script{{}, all(), odd, {Deeds: slices.Repeat([]api.Deed{{Kind: api.DSync}}, api.MaxDeeds)}, with(api.Deed{Kind: api.DCrash, Fates: []api.Fate{}})} {
		if e := play.Check(s); e != api.OK {
			t.Error(i, e)
		}
	}
	for i, s := range bad() {
		if e := play.Check(s); e != api.ErrScript {
			t.Error(i, e, s.Deeds[len(s.Deeds)-1])
		}
		if x, e := play.Print(s); e != api.ErrScript || x != "" {
			t.Error(i, e)
		}
	}
	many := api.Script{Deeds: make([]api.Deed, api.MaxDeeds+1)}
	if play.Check(many) != api.ErrMany {
		t.Error("ErrMany is told first")
	}
	if x, e := play.Print(many); e != api.ErrMany || x != "" {
		t.Error(e)
	}
}

func TestP28_1Print(t *testing.T) {
	if x, e := play.Print(all()); e != api.OK || x != allText {
		t.Error(x, e)
	}
	if x, e := play.Print(api.Script{}); e != api.OK || x != "lien 0 0 0 0 0\n" {
		t.Error(x, e)
	}
	head := len("lien 10 0 0 0 0\nask =\n")
	n := (api.MaxScript - head) / 2
	for more := range 2 {
		s := api.Script{Sectors: 10, Deeds: []api.Deed{{Kind: api.DAsk, Text: strings.Repeat("x", n+more)}}}
		x, e := play.Print(s)
		if more == 0 && (e != api.OK || len(x) != api.MaxScript) || more == 1 && (e != api.ErrLong || x != "") {
			t.Error(more, e, len(x))
		}
	}
	s := api.Script{Deeds: slices.Repeat([]api.Deed{{Kind: api.DAsk, Text: "1234567"}}, api.MaxDeeds)}
	if x, e := play.Print(s); e != api.ErrLong || x != "" {
		t.Error(e, len(x))
	}
}

func TestP28_1Same(t *testing.T) {
	for i, do := range []func(s *api.Script){
		func(s *api.Script) { s.Sectors++ }, func(s *api.Script) { s.Conf.Mem++ }, func(s *api.Script) { s.Conf.LogPairs++ }, func(s *api.Script) { s.Conf.ManPairs++ }, func(s *api.Script) { s.Conf.TableBytes++ }, func(s *api.Script) { s.Deeds = s.Deeds[1:] }, func(s *api.Script) { s.Deeds = append(s.Deeds, api.Deed{}) },
		func(s *api.Script) { s.Deeds[2].Kind++ }, func(s *api.Script) { s.Deeds[2].A++ }, func(s *api.Script) { s.Deeds[2].B++ }, func(s *api.Script) { s.Deeds[2].C++ }, func(s *api.Script) { s.Deeds[2].Text = "x" }, func(s *api.Script) { s.Deeds[2].Fates = make([]api.Fate, 1) }, func(s *api.Script) { s.Deeds[15].Fates[1].Cut++ }, func(s *api.Script) { s.Deeds[15].Fates[0].Keep++ }, func(s *api.Script) { s.Deeds[15].Fates = s.Deeds[15].Fates[:1] },
	} {
		a, b := all(), all()
		do(&b)
		if play.Same(a, b) || play.Same(b, a) || !play.Same(b, b) {
			t.Error(i)
		}
	}
	a, b := all(), all()
	a.Deeds[2].Fates = []api.Fate{}
	if !play.Same(a, b) || !play.Same(b, a) || !play.Same(api.Script{}, api.Script{Deeds: []api.Deed{}}) {
		t.Error("no fates and nil are one")
	}
}

// wrong fails, if a text's first wrong line is not that one.
func wrong(t *testing.T, x string, line int) {
	t.Helper()
	s, n, e := play.Parse(x)
	if e != api.ErrScript || n != line || !reflect.DeepEqual(s, api.Script{}) {
		t.Errorf("%.80q: %d, %d, not %d", x, n, e, line)
	}
	if r, n, e := play.Text(x); e != api.ErrScript || n != line || r != "" {
		t.Errorf("%.80q: %d, %d", x, n, e)
	}
}

func TestP28_2Parse(t *testing.T) {
	if s, n, e := play.Parse(allText); e != api.OK || n != 0 || !play.Same(s, all()) {
		t.Error(s, n, e)
	}
	if s, n, e := play.Parse("lien -1 0 0 0 1099511627776\n"); e != api.OK || n != 0 || !play.Same(s, api.Script{Sectors: -1, Conf: api.Conf{TableBytes: 1 << 40}}) {
		t.Error(s, n, e)
	}
	for _, x := range []string{
		"", "\n", "lien", "lien\n", "lien 516 4 1 1 256", "lien 516 4 1 1\n", "lien 516 4 1 1 256 \n", "lien 516 4 1 1 256 0\n", " lien 516 4 1 1 256\n", "lien  516 4 1 1 256\n", "LIEN 516 4 1 1 256\n", "sync\n", "lien 516 4 1 1 0256\n", "lien 516 4 1 1 +256\n", "lien 516 4 1 1 -0\n", "lien 516 4 1 1 -\n", "lien 516 4 1 1 1_0\n", "lien 516 4 1 1 0x1\n",
		"lien 516 4 1 1 1099511627777\n", "lien -1099511627777 4 1 1 1\n", "lien 516 4 1 1 99999999999999999999\n", "lien 516 4 1 1 256\r\n", "lien 516 4 1 1 ２\n", "lien 516 4 1 1 =\n", "\nlien 516 4 1 1 256\n", "lien 516\t4 1 1 256\n", "lienx 516 4 1 1 256\n",
	} {
		wrong(t, x, 1)
	}
	for _, d := range []string{
		"", " ", "sync ", " sync", "sync 1", "Sync", "synk", "tick 0", "flush =", "compact 1", "scrub 1", "ask", "ask ", "ask 01", "ask =1", "ask =0g", "ask =0A", "ask =01 ", "ask =01 =02", "ask =01 1", "ask  =01", "ask =-1", "ask = 01", "resend", "resend 1 2", "resend =", "resend x", "resend 01", "resend -0", "resend +1", "resend 1.0", "resend 1e3", "offer 1 2", "offer 1 =71 2", "offer 1 2 71", "offer 1 2 =71 3", "again", "come", "come 1 1", "lose", "twin", "fuse", "fuse 1 1",
		"crash 1", "crash 1 2 3", "crash =", "crash ", "crash 1 x", "rot 1 2", "rot 1 2 3 4", "rot", "rot 1 2 =03", "lien 516 4 1 1 256", "come 1099511627777", "come -1099511627777", "come 9223372036854775808", "told 1", "end", "crash 1 1099511627777", "sync\r", "nodeed", "come \x00", "=", "1",
	} {
		wrong(t, allText+d+"\nsync\n", 19)
		wrong(t, allText+d+"\n", 19)
		wrong(t, "lien 516 4 1 1 256\n"+d+"\nx\n", 2)
	}
	wrong(t, allText+"sync", 19)
	wrong(t, allText+"\n", 19)
}

func TestP28_2ParseAtTheEdges(t *testing.T) {
	head := "lien 36 4 1 1 256\n"
	full := head + strings.Repeat("tick\n", api.MaxDeeds)
	if s, n, e := play.Parse(full); e != api.OK || n != 0 || len(s.Deeds) != api.MaxDeeds {
		t.Error(n, e)
	}
	if s, n, e := play.Parse(full + "tick\n"); e != api.ErrMany || n != api.MaxDeeds+2 || len(s.Deeds) > 0 {
		t.Error(n, e)
	}
	if s, n, e := play.Parse(full + "tick\ntick\n"); e != api.ErrMany || n != api.MaxDeeds+2 || len(s.Deeds) > 0 {
		t.Error(n, e)
	}
	wrong(t, full+"tock\n", api.MaxDeeds+2)
	wrong(t, full+"tick", api.MaxDeeds+2)
	n := (api.MaxScript - len(head) - len("ask =\n")) / 2
	for more := range 2 {
		x := head + "ask =" + strings.Repeat("61", n+more) + "\n"
		s, line, e := play.Parse(x)
		if long := len(x) > api.MaxScript; line != 0 || (e == api.ErrLong) != long || long && len(s.Deeds) > 0 || !long && (e != api.OK || len(s.Deeds[0].Text) != n) {
			t.Error(more, line, e)
		}
	}
	if _, n, e := play.Parse(strings.Repeat("x", api.MaxScript+1)); e != api.ErrLong || n != 0 {
		t.Error(n, e)
	}
	if r, n, e := play.Text(strings.Repeat("x", api.MaxScript+1)); e != api.ErrLong || n != 0 || r != "" {
		t.Error(n, e)
	}
	wrong(t, strings.Repeat("x", api.MaxScript), 1)
}

// asks is the deed of a request.
func asks(r api.Request) api.Deed {
	b, e := wire.Bytes(r)
	if e != api.OK {
		panic(e)
	}
	return api.Deed{Kind: api.DAsk, Text: string(b)}
}

func TestP28_3Run(t *testing.T) {
	for _, x := range []struct {
		s    api.Script
		want string
	}{
		{api.Script{}, "1\n"},
		{api.Script{Sectors: 516, Deeds: all().Deeds}, "191\n"},
		{api.Script{Sectors: 20, Conf: small()}, "60\n"},
		{api.Script{Sectors: 516, Conf: small()}, "0\nend 0 0 0 0\n"},
		{api.Script{Sectors: 516, Conf: small(), Deeds: []api.Deed{asks(api.Request{Kind: api.QGrant, Key: "a", N: 5}), {Kind: api.DAsk, Text: "\x01\x01a"}, {Kind: api.DSync}, asks(api.Request{Kind: api.QSend, Key: "a", Peer: 3, N: 2}), {Kind: api.DSync}, {Kind: api.DCome, A: 7}, asks(api.Request{Kind: api.QRead, Key: "a"}), asks(api.Request{Kind: api.QGrant, Key: "\xff\x00", N: 1}), {Kind: 99, A: math.MaxInt}}},
			"0\n0\n0\n0\ntold 0 0 0 0 0 0\ntold 1 220 0 0 0 0\n0\n0\ntold 3 0 0 0 0 0\n5\n0\ntold 6 0 1125899906842624 0 3 0\n0\n270\nend 3 2 1 1\ntotal =61 3 0 2\ntotal =ff00 1 0 0\n"},
		{api.Script{Sectors: 516, Conf: small(), Deeds: []api.Deed{asks(api.Request{Kind: api.QGrant, Key: "a", N: 5}), {Kind: api.DFuse}, {Kind: api.DSync}, {Kind: api.DSync}}}, "0\n0\n0\n30\n190\nend 1 0 1 0\nnone 190\n"},
		{api.Script{Sectors: 516, Conf: small(), Deeds: []api.Deed{{Kind: api.DRot, C: 1}, {Kind: api.DRot, A: 1, C: 1}, {Kind: api.DRot, A: 2, C: 1}, {Kind: api.DRot, A: 3, C: 1}, {Kind: api.DCrash}, {Kind: api.DTick}}}, "0\n0\n0\n0\n0\n192\n270\nend 0 0 0 0\nnone 270\n"},
		{api.Script{Sectors: 516, Conf: small(), Deeds: []api.Deed{asks(api.Request{Kind: api.QGrant, Key: "a", N: 5}), {Kind: api.DSync}, {Kind: api.DFuse, A: 0}, {Kind: api.DCrash}}}, "0\n0\n0\ntold 0 0 0 0 0 0\n0\n0\nend 1 1 0 0\ntotal =61 5 0 0\n"},
	} {
		if got := play.Run(x.s); got != x.want {
			t.Errorf("%q, not %q", got, x.want)
		}
	}
	if r, n, e := play.Text("lien 516 4 1 1 256\nask =010161\nsync\n"); e != api.OK || n != 0 || r != "0\n0\ntold 0 220 0 0 0 0\n0\nend 0 0 0 0\n" {
		t.Errorf("%q, %d, %d", r, n, e)
	}
}

func TestP28_3TooManyDeeds(t *testing.T) {
	s := api.Script{Sectors: 516, Conf: small(), Deeds: make([]api.Deed, api.MaxDeeds+2)}
	if got := play.Run(s); got != "0\n"+strings.Repeat("270\n", api.MaxDeeds)+"3\n3\nend 0 0 0 0\n" {
		t.Error(len(got))
	}
}

// slowReport is the chapter's words, of a world.
func slowReport(s api.Script) string {
	w, e := world.New(s)
	out := fmt.Sprintf("%d\n", e)
	if e != api.OK {
		return out
	}
	for _, d := range s.Deeds {
		n := len(w.Told())
		out += fmt.Sprintf("%d\n", w.Do(d))
		for _, a := range w.Told()[n:] {
			out += fmt.Sprintf("told %d %d %d %d %d %d\n", a.I, a.Reply.E, a.Reply.N, a.Reply.Seq, a.Reply.Free, a.Reply.Held)
		}
	}
	out += fmt.Sprintf("end %d %d %d %d\n", w.Seq(), w.Durable(), w.Waiting(), len(w.Mails()))
	l, e := w.Totals()
	if e != api.OK {
		return out + fmt.Sprintf("none %d\n", e)
	}
	for _, x := range l {
		out += fmt.Sprintf("total =%x %d %d %d\n", x.Key, x.Free, x.Held, x.Out)
	}
	return out
}

// some is a script by chance.
func some(r *rand.Rand, n int) api.Script {
	s := api.Script{Sectors: 36 + r.IntN(900), Conf: small()}
	key := func() string { return []string{"a", "b", "\x00c"}[r.IntN(3)] }
	for range n {
		d := api.Deed{Kind: api.DeedKind(1 + r.IntN(15))}
		switch d.Kind {
		case api.DAsk:
			d = []api.Deed{asks(api.Request{Kind: api.QGrant, Key: key(), N: 1 + r.IntN(30)}), asks(api.Request{Kind: api.QSend, Key: key(), Peer: 1 + r.IntN(3), N: 1 + r.IntN(4)}), asks(api.Request{Kind: api.QReserve, Key: key(), N: 1 + r.IntN(4), ID: r.IntN(5)}), asks(api.Request{Kind: api.QRead, Key: key()}), {Kind: api.DAsk, Text: "\x00\xff"}}[r.IntN(5)]
		case api.DOffer:
			d.A, d.B, d.Text = r.IntN(4), r.IntN(4), key()
		case api.DResend, api.DAgain, api.DCome, api.DLose, api.DTwin:
			d.A = r.IntN(4)
		case api.DFuse:
			d.A = r.IntN(60)
		case api.DCrash:
			for range r.IntN(3) {
				d.Fates = append(d.Fates, api.Fate{Keep: r.IntN(2), Cut: r.IntN(4)})
			}
		case api.DRot:
			d.A, d.B, d.C = r.IntN(40), r.IntN(128), r.IntN(2)
		}
		s.Deeds = append(s.Deeds, d)
	}
	return s
}

func TestP28_3RunIsTheWords(t *testing.T) {
	r := rand.New(rand.NewPCG(28, 3))
	for range 60 {
		s := some(r, 100)
		if got := play.Run(s); got != slowReport(s) {
			t.Fatal(got, slowReport(s))
		}
	}
}

func TestP28_4ThereAndBack(t *testing.T) {
	r := rand.New(rand.NewPCG(28, 4))
	for range 300 {
		s := some(r, r.IntN(40))
		x, e := play.Print(s)
		got, n, e2 := play.Parse(x)
		if e != api.OK || e2 != api.OK || n != 0 || !play.Same(got, s) {
			t.Fatal(x, n, e, e2)
		}
		b := []byte(x)
		for range 50 {
			was := b[r.IntN(len(b))]
			i := r.IntN(len(b))
			b[i], was = was, b[i]
			got, _, e := play.Parse(string(b))
			if again, e2 := play.Print(got); e == api.OK && (e2 != api.OK || again != string(b)) {
				t.Fatalf("%q, %q", b, again)
			}
			b[i] = was
		}
	}
}

func TestP28_5Again(t *testing.T) {
	r := rand.New(rand.NewPCG(28, 5))
	for range 30 {
		s := some(r, 80)
		x, _ := play.Print(s)
		whole := play.Run(s)
		if again, n, e := play.Text(x); e != api.OK || n != 0 || again != whole || play.Run(s) != whole {
			t.Fatal("again")
		}
		n := r.IntN(len(s.Deeds))
		part := s
		part.Deeds = s.Deeds[:n]
		short := play.Run(part)
		if i := strings.Index(short, "end "); !strings.HasPrefix(whole, short[:i]) {
			t.Fatal(short, whole)
		}
	}
}

func TestRulesNothingIsChanged(t *testing.T) {
	s := all()
	play.Check(s)
	play.Print(s)
	play.Run(s)
	if !play.Same(s, all()) {
		t.Error("a script is changed")
	}
	one, _, _ := play.Parse(allText)
	two, _, _ := play.Parse(allText)
	one.Deeds[15].Fates[0].Keep = 99
	one.Deeds[0].A = 99
	if !play.Same(two, all()) {
		t.Error("two answers share memory")
	}
}
