package outbox_test

import (
	"bytes"
	"encoding/binary"
	"math"
	"math/rand/v2"
	"slices"
	"strings"
	"testing"

	"lien/api"
	"lien/code"
	"lien/outbox"
)

const top = api.MaxSeq

// box is an inbox.
func box(floor int, mask uint64) api.Inbox { return api.Inbox{Floor: floor, Mask: mask} }

// wrong are inboxes that may not be.
func wrong() []api.Inbox {
	return []api.Inbox{box(-1, 0), box(math.MinInt, 2), box(top+1, 0), box(math.MaxInt, 0), box(0, 1), box(5, 3), box(5, math.MaxUint64)}
}

func TestP21_1NameAndCheck(t *testing.T) {
	for n := range 40 {
		if outbox.Name(strings.Repeat("\x00", n)) != (n >= 1 && n <= 16) {
			t.Error(n)
		}
	}
	for _, b := range wrong() {
		if outbox.CheckInbox(b) != api.ErrBox || outbox.Has(b, 0) || outbox.Has(b, 1) {
			t.Error(b)
		}
		if got, e := outbox.Take(b, -1); e != api.ErrBox || got != (api.Inbox{}) {
			t.Error(b, e)
		}
	}
	for _, b := range []api.Inbox{{}, box(top, 0), box(top, 2), box(5, math.MaxUint64-1)} {
		if outbox.CheckInbox(b) != api.OK {
			t.Error(b)
		}
	}
}

func TestP21_1Has(t *testing.T) {
	b := box(10, 1<<1|1<<5|1<<63)
	for seq := -5; seq < 100; seq++ {
		want := seq >= 0 && seq < 10 || seq == 11 || seq == 15 || seq == 73
		if outbox.Has(b, seq) != want {
			t.Error(seq)
		}
	}
	for _, seq := range []int{math.MinInt, math.MaxInt, top} {
		if outbox.Has(b, seq) || outbox.Has(box(0, 0), seq) {
			t.Error(seq)
		}
	}
}

func TestP21_1Take(t *testing.T) {
	all := uint64(math.MaxUint64)
	for _, x := range []struct {
		b    api.Inbox
		seq  int
		want api.Inbox
		e    api.Errno
	}{
		{box(2, 4), 3, box(2, 6), api.OK}, {box(2, 6), 2, box(5, 0), api.OK}, {box(0, 0), 0, box(1, 0), api.OK}, {box(0, 0), 63, box(0, 1<<63), api.OK}, {box(0, 0), 64, api.Inbox{}, api.ErrAhead}, {box(5, 2), 68, box(5, 2|1<<63), api.OK}, {box(5, 2), 69, api.Inbox{}, api.ErrAhead},
		{box(5, 2), 4, api.Inbox{}, api.ErrKnown}, {box(5, 2), 0, api.Inbox{}, api.ErrKnown}, {box(5, 2), 6, api.Inbox{}, api.ErrKnown}, {box(5, 2), 5, box(7, 0), api.OK}, {box(0, all-1), 0, box(64, 0), api.OK}, {box(7, all-1), 71, api.Inbox{}, api.ErrAhead},
		{box(5, 2), -1, api.Inbox{}, api.ErrArg}, {box(5, 2), top + 1, api.Inbox{}, api.ErrArg}, {box(5, 2), math.MinInt, api.Inbox{}, api.ErrArg}, {box(5, 2), math.MaxInt, api.Inbox{}, api.ErrArg}, {box(5, 2), top, api.Inbox{}, api.ErrAhead},
		{box(top, 0), top, api.Inbox{}, api.ErrMany}, {box(top-1, 0), top - 1, box(top, 0), api.OK}, {box(top-1, 2), top - 1, api.Inbox{}, api.ErrMany}, {box(top-1, 0), top, box(top-1, 2), api.OK}, {box(top, 2), top, api.Inbox{}, api.ErrMany}, {box(top, 0), top - 1, api.Inbox{}, api.ErrKnown},
	} {
		if got, e := outbox.Take(x.b, x.seq); got != x.want || e != x.e {
			t.Error(x, got, e)
		}
	}
}

func TestP21_2Send(t *testing.T) {
	for _, x := range []struct {
		next, waiting, want int
		e                   api.Errno
	}{
		{0, 0, 1, api.OK}, {5, 63, 6, api.OK}, {top - 1, 0, top, api.OK}, {top, 0, 0, api.ErrMany}, {top, 64, 0, api.ErrCrowded}, {5, 64, 0, api.ErrCrowded}, {5, math.MaxInt, 0, api.ErrCrowded},
		{-1, 0, 0, api.ErrArg}, {top + 1, 99, 0, api.ErrArg}, {0, -1, 0, api.ErrArg}, {math.MinInt, 0, 0, api.ErrArg}, {math.MaxInt, 0, 0, api.ErrArg}, {top, -1, 0, api.ErrArg}, {0, math.MinInt, 0, api.ErrArg},
	} {
		if got, e := outbox.Send(x.next, x.waiting); got != x.want || e != x.e {
			t.Error(x, got, e)
		}
	}
}

// eight are a number's eight bytes.
func eight(n int) string { return string(binary.BigEndian.AppendUint64(nil, uint64(n))) }

// key is a key of parts, which must be one.
func key(t *testing.T, parts ...string) string {
	t.Helper()
	k, e := code.Key(parts...)
	if e != api.OK {
		t.Fatal(e)
	}
	return k
}

// is fails, if what was told is not that key, or the error.
func is(t *testing.T, got string, e api.Errno, good bool, want string) {
	t.Helper()
	if good && (e != api.OK || got != want || len(got) > api.MaxKey) || !good && (e != api.ErrArg || got != "") {
		t.Errorf("%q, %d, not %q", got, e, want)
	}
}

func TestP21_3Keys(t *testing.T) {
	zeros := strings.Repeat("\x00", 16)
	for _, name := range []string{"", "a", "rights", zeros, zeros + "x", strings.Repeat("\xff", 16), strings.Repeat("n", 17)} {
		good := len(name) >= 1 && len(name) <= 16
		k, e := outbox.AccountKey(name)
		is(t, k, e, good, key(t, "a", name))
		k, e = outbox.HoldsKey(name)
		is(t, k, e, good, key(t, "h", name))
		for _, id := range []int{math.MinInt, -1, 0, 1, 300, 1 << 40, 1<<40 + 1, math.MaxInt} {
			k, e = outbox.HoldKey(name, id)
			is(t, k, e, good && id >= 0 && id <= 1<<40, key(t, "h", name, eight(id)))
		}
	}
	for _, peer := range []int{math.MinInt, -1, 0, 1, 7, 15, 16, 257, math.MaxInt} {
		good, b := peer >= 1 && peer <= 15, string([]byte{byte(peer)})
		k, e := outbox.OutsKey(peer)
		is(t, k, e, good, key(t, "o", b))
		k, e = outbox.NextKey(peer)
		is(t, k, e, good, key(t, "n", b))
		k, e = outbox.InboxKey(peer)
		is(t, k, e, good, key(t, "i", b))
		for _, seq := range []int{math.MinInt, -1, 0, 1, 300, 1 << 40, 1<<40 + 1, math.MaxInt} {
			k, e = outbox.OutKey(peer, seq)
			is(t, k, e, good && seq >= 0 && seq <= 1<<40, key(t, "o", b, eight(seq)))
		}
	}
	if outbox.ClockKey() != "t\x00\x01" {
		t.Errorf("%q", outbox.ClockKey())
	}
}

// none tells whether Split tells of a key that it is none.
func none(k string) bool {
	kind, of, n, e := outbox.Split(k)
	return e == api.ErrBox && kind == "" && of == "" && n == 0
}

func TestP21_3SplitOfNone(t *testing.T) {
	long := strings.Repeat("n", 17)
	for _, parts := range [][]string{
		{}, {""}, {"a"}, {"a", ""}, {"a", long}, {"a", "x", "y"}, {"a", "x", eight(1)}, {"h", "x"}, {"h", "", eight(1)}, {"h", long, eight(1)}, {"h", "x", eight(1<<40 + 1)}, {"h", "x", eight(-1)}, {"h", "x", eight(1)[1:]}, {"h", "x", eight(1) + "\x00"}, {"h", "x", ""}, {"h", "x", eight(1), ""}, {"h"},
		{"o", "\x03"}, {"o", "\x00", eight(1)}, {"o", "\x10", eight(1)}, {"o", "\xff", eight(1)}, {"o", "", eight(1)}, {"o", "\x03\x03", eight(1)}, {"o", "\x03", eight(1<<40 + 1)}, {"o", "\x03", "1"}, {"o", "\x03", eight(1), "x"},
		{"n"}, {"n", ""}, {"n", "\x00"}, {"n", "\x10"}, {"n", "\x03\x03"}, {"n", "\x03", eight(1)}, {"i"}, {"i", "\x00"}, {"i", "abc"}, {"i", "\x03", ""}, {"t", ""}, {"t", "x"}, {"b", "x"}, {"A", "x"}, {"aa", "x"}, {"x"}, {"t", "a", "b"}, {"h", "\x03", "\x04", "\x05", "", "", "", ""},
	} {
		if !none(key(t, parts...)) {
			t.Errorf("%q", parts)
		}
	}
	for _, k := range []string{"", "a", "a\x00\x01x", "a\x00\x01x\x00", "t", "t\x00", "t\x00\x02", "t\x00\x01\x00", strings.Repeat("a\x00\x01", 9)} {
		if !none(k) {
			t.Errorf("%q", k)
		}
	}
}

// splits fails, if a key is not split into that.
func splits(t *testing.T, k string, e api.Errno, kind, of string, n int) {
	t.Helper()
	a, b, c, e2 := outbox.Split(k)
	if e != api.OK || e2 != api.OK || a != kind || b != of || c != n {
		t.Errorf("%q: %q, %q, %d, %d", k, a, b, c, e2)
	}
}

// name is one by chance.
func name(r *rand.Rand) string {
	b := make([]byte, 1+r.IntN(16))
	for i := range b {
		b[i] = []byte{0, 1, 97, 98, 255}[r.IntN(5)]
	}
	return string(b)
}

func TestP21_7KeysThereAndBack(t *testing.T) {
	r := rand.New(rand.NewPCG(21, 7))
	for range 20000 {
		who, n, peer := name(r), r.IntN(1<<r.IntN(41)+1), 1+r.IntN(15)
		p := string([]byte{byte(peer)})
		k, e := outbox.AccountKey(who)
		splits(t, k, e, "a", who, 0)
		k, e = outbox.HoldKey(who, n)
		splits(t, k, e, "h", who, n)
		k, e = outbox.OutKey(peer, n)
		splits(t, k, e, "o", p, n)
		k, e = outbox.NextKey(peer)
		splits(t, k, e, "n", p, 0)
		k, e = outbox.InboxKey(peer)
		splits(t, k, e, "i", p, 0)
		k, e = outbox.HoldsKey(who)
		if e != api.OK || !none(k) {
			t.Fatal("HoldsKey's is none")
		}
		k, e = outbox.OutsKey(peer)
		if e != api.OK || !none(k) {
			t.Fatal("OutsKey's is none")
		}
	}
	for _, n := range []int{0, api.MaxTime} {
		k, e := outbox.HoldKey("a", n)
		splits(t, k, e, "h", "a", n)
		k, e = outbox.OutKey(15, n)
		splits(t, k, e, "o", "\x0f", n)
	}
	splits(t, outbox.ClockKey(), api.OK, "t", "", 0)
}

// nums are numbers' bytes by the chapter's words.
func nums(l ...uint64) []byte {
	var b []byte
	for _, n := range l {
		b = binary.AppendUvarint(b, n)
	}
	return b
}

func TestP21_4Bytes(t *testing.T) {
	for _, n := range []int{0, 1, 127, 128, 300, top} {
		if b, e := outbox.NumBytes(n); e != api.OK || !bytes.Equal(b, nums(uint64(n))) {
			t.Error(n, b, e)
		}
		if got, e := outbox.ReadNum(nums(uint64(n))); e != api.OK || got != n {
			t.Error(n, got, e)
		}
	}
	for _, n := range []int{math.MinInt, -1, top + 1, math.MaxInt} {
		if b, e := outbox.NumBytes(n); e != api.ErrBox || len(b) > 0 {
			t.Error(n, e)
		}
	}
	for _, x := range []api.Inbox{{}, box(300, 2), box(top, math.MaxUint64-1)} {
		want := nums(uint64(x.Floor), x.Mask)
		if b, e := outbox.InboxBytes(x); e != api.OK || !bytes.Equal(b, want) {
			t.Error(x, b, e)
		}
		if got, e := outbox.ReadInbox(want); e != api.OK || got != x {
			t.Error(x, got, e)
		}
	}
	for _, x := range wrong() {
		if b, e := outbox.InboxBytes(x); e != api.ErrBox || len(b) > 0 {
			t.Error(x, e)
		}
	}
	for _, x := range []api.Intent{{Key: "a", N: 1}, {Key: strings.Repeat("n", 16), N: api.MaxTotal}, {Key: "\x00", N: 300}} {
		want := slices.Concat(nums(uint64(len(x.Key))), []byte(x.Key), nums(uint64(x.N)))
		if b, e := outbox.IntentBytes(x); e != api.OK || !bytes.Equal(b, want) {
			t.Error(x, b, e)
		}
		if got, e := outbox.ReadIntent(want); e != api.OK || got != x {
			t.Error(x, got, e)
		}
	}
	for _, x := range []api.Intent{{}, {Key: "a"}, {N: 1}, {Key: strings.Repeat("n", 17), N: 1}, {Key: "a", N: -1}, {Key: "a", N: api.MaxTotal + 1}, {Key: "a", N: math.MinInt}, {Key: "a", N: math.MaxInt}} {
		if b, e := outbox.IntentBytes(x); e != api.ErrBox || len(b) > 0 {
			t.Error(x, e)
		}
	}
}

func TestP21_4WrongBytes(t *testing.T) {
	huge := uint64(math.MaxUint64)
	for _, b := range [][]byte{nil, {128}, {128, 0}, {1, 0}, nums(top + 1), nums(huge), nums(1 << 63)} {
		if n, e := outbox.ReadNum(b); e != api.ErrBox || n != 0 {
			t.Error(b, n, e)
		}
	}
	for _, b := range [][]byte{nil, {0}, {0, 1}, {0, 3}, {0, 0, 0}, {128, 0, 0}, {0, 130, 0}, nums(top+1, 0), nums(huge, 0), nums(0, huge)} {
		if x, e := outbox.ReadInbox(b); e != api.ErrBox || x != (api.Inbox{}) {
			t.Error(b, x, e)
		}
	}
	for _, b := range [][]byte{nil, {0, 1}, {1, 97}, {1, 97, 0}, {1, 97, 1, 0}, {1}, {129, 0, 97, 1}, {1, 97, 129, 0}, {17}, append(append([]byte{17}, strings.Repeat("n", 17)...), 1), slices.Concat([]byte{1, 97}, nums(api.MaxTotal+1)), slices.Concat([]byte{1, 97}, nums(huge)), slices.Concat([]byte{1, 97}, nums(1<<63))} {
		if x, e := outbox.ReadIntent(b); e != api.ErrBox || x != (api.Intent{}) {
			t.Error(b, x, e)
		}
	}
}

func TestP21_7BytesThereAndBack(t *testing.T) {
	r := rand.New(rand.NewPCG(21, 8))
	for range 100000 {
		b := make([]byte, r.IntN(6))
		for i := range b {
			b[i] = []byte{0, 1, 2, 97, 128, 130, 255}[r.IntN(7)]
		}
		if n, e := outbox.ReadNum(b); e == api.OK {
			if again, e := outbox.NumBytes(n); e != api.OK || !bytes.Equal(again, b) {
				t.Fatal(b, n)
			}
		}
		if x, e := outbox.ReadInbox(b); e == api.OK {
			if again, e := outbox.InboxBytes(x); e != api.OK || !bytes.Equal(again, b) {
				t.Fatal(b, x)
			}
		}
		if x, e := outbox.ReadIntent(b); e == api.OK {
			if again, e := outbox.IntentBytes(x); e != api.OK || !bytes.Equal(again, b) {
				t.Fatal(b, x)
			}
		}
		in := box(r.IntN(1<<r.IntN(41)), r.Uint64()>>r.IntN(64)&^1)
		c, _ := outbox.InboxBytes(in)
		if got, e := outbox.ReadInbox(c); e != api.OK || got != in {
			t.Fatal(in, got)
		}
		it := api.Intent{Key: name(r), N: 1 + r.IntN(1<<r.IntN(51))}
		c, _ = outbox.IntentBytes(it)
		if got, e := outbox.ReadIntent(c); e != api.OK || got != it {
			t.Fatal(it, got)
		}
	}
}

func TestP21_5EachOnce(t *testing.T) {
	r := rand.New(rand.NewPCG(21, 5))
	for range 500 {
		b := box(r.IntN(3), 0)
		had := map[int]int{}
		for n := range b.Floor {
			had[n]++
		}
		for range 300 {
			seq := r.IntN(100)
			got, e := outbox.Take(b, seq)
			floor := 0
			for had[floor] > 0 {
				floor++
			}
			want := api.OK
			if had[seq] > 0 {
				want = api.ErrKnown
			} else if seq >= floor+64 {
				want = api.ErrAhead
			}
			if e != want {
				t.Fatal(seq, e, want)
			}
			if e == api.OK {
				had[seq]++
				b = got
			}
			for n := range 110 {
				if outbox.Has(b, n) != (had[n] > 0) {
					t.Fatal(n, b)
				}
			}
		}
	}
}

func TestP21_6Order(t *testing.T) {
	r := rand.New(rand.NewPCG(21, 6))
	for range 20000 {
		a, b, m, n := name(r), name(r), r.IntN(1<<r.IntN(41)+1), r.IntN(1<<r.IntN(41)+1)
		if r.IntN(2) == 0 {
			b = a
		}
		x, _ := outbox.HoldKey(a, m)
		y, _ := outbox.HoldKey(b, n)
		begin, _ := outbox.HoldsKey(a)
		if !strings.HasPrefix(x, begin) || strings.HasPrefix(y, begin) != (a == b) || a == b && (x < y) != (m < n) || a != b && (x < y) != (a < b) {
			t.Fatalf("%q, %q", x, y)
		}
		p, q := 1+r.IntN(15), 1+r.IntN(15)
		x, _ = outbox.OutKey(p, m)
		y, _ = outbox.OutKey(q, n)
		begin, _ = outbox.OutsKey(p)
		if !strings.HasPrefix(x, begin) || strings.HasPrefix(y, begin) != (p == q) || p == q && (x < y) != (m < n) || p != q && (x < y) != (p < q) {
			t.Fatalf("%q, %q", x, y)
		}
	}
}
