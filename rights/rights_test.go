package rights_test

import (
	"bytes"
	"encoding/binary"
	"math"
	"math/rand/v2"
	"testing"

	"lien/api"
	"lien/rights"
)

const most = api.MaxTotal

// acc is an account.
func acc(free, held, quota int) api.Account { return api.Account{Free: free, Held: held, Quota: quota} }

// wrong are accounts that may not be.
func wrong() []api.Account {
	l := []api.Account{acc(most, 1, 5), acc(1, most, 5), acc(most/2+1, most/2, 0)}
	for _, n := range []int{math.MinInt, -1, most + 1, math.MaxInt} {
		l = append(l, acc(n, 0, 0), acc(0, n, 0), acc(0, 0, n), acc(n, n, n))
	}
	return l
}

// wrongHolds are holds that may not be.
func wrongHolds() []api.Hold {
	l := []api.Hold{{}, {N: 0, Until: 5}, {N: 1, Until: api.MaxTime + 1}}
	for _, n := range []int{math.MinInt, -1, most + 1, math.MaxInt} {
		l = append(l, api.Hold{N: n}, api.Hold{N: 1, Until: n})
	}
	return l
}

// good are accounts that may be.
func good() []api.Account {
	return []api.Account{rights.Fresh(), {}, acc(most, 0, most), acc(0, most, 0), acc(most/2, most/2, 7), acc(5, 3, 4), acc(1, 2, 3)}
}

func TestP20_1(t *testing.T) {
	if rights.Fresh() != acc(0, 0, most) {
		t.Error(rights.Fresh())
	}
	for _, a := range good() {
		if rights.Check(a) != api.OK {
			t.Error(a)
		}
	}
	for _, a := range wrong() {
		if rights.Check(a) != api.ErrAccount {
			t.Error(a)
		}
	}
	for _, h := range []api.Hold{{N: 1}, {N: most, Until: api.MaxTime}} {
		if rights.CheckHold(h) != api.OK {
			t.Error(h)
		}
	}
	for _, h := range wrongHolds() {
		if rights.CheckHold(h) != api.ErrAccount {
			t.Error(h)
		}
	}
}

// is fails, if what was told is not that.
func is(t *testing.T, got api.Account, e api.Errno, want api.Account, wantE api.Errno) {
	t.Helper()
	if got != want || e != wantE {
		t.Error(got, e, want, wantE)
	}
}

func TestP20_2GrantAndCredit(t *testing.T) {
	for _, do := range []func(api.Account, int) (api.Account, api.Errno){rights.Grant, rights.Credit} {
		for _, x := range []struct {
			a    api.Account
			n    int
			want api.Account
			e    api.Errno
		}{
			{rights.Fresh(), 5, acc(5, 0, most), api.OK}, {acc(5, 3, 2), 1, acc(6, 3, 2), api.OK}, {acc(0, 0, 0), most, acc(most, 0, 0), api.OK}, {acc(1, 0, 0), most, acc(0, 0, 0), api.ErrOver}, {acc(0, 1, 0), most, acc(0, 0, 0), api.ErrOver},
			{acc(3, 4, 0), most - 7, acc(most-4, 4, 0), api.OK}, {acc(3, 4, 0), most - 6, acc(0, 0, 0), api.ErrOver}, {acc(1, 2, 3), 0, api.Account{}, api.ErrArg}, {acc(1, 2, 3), -1, api.Account{}, api.ErrArg}, {acc(1, 2, 3), most + 1, api.Account{}, api.ErrArg}, {acc(1, 2, 3), math.MaxInt, api.Account{}, api.ErrArg}, {acc(1, 2, 3), math.MinInt, api.Account{}, api.ErrArg},
		} {
			got, e := do(x.a, x.n)
			is(t, got, e, x.want, x.e)
		}
		for _, a := range wrong() {
			got, e := do(a, 0)
			is(t, got, e, api.Account{}, api.ErrAccount)
		}
	}
}

func TestP20_2SpendAndDebit(t *testing.T) {
	for _, do := range []func(api.Account, int) (api.Account, api.Errno){rights.Spend, rights.Debit} {
		for _, x := range []struct {
			a    api.Account
			n    int
			want api.Account
			e    api.Errno
		}{
			{acc(5, 3, 2), 5, acc(0, 3, 2), api.OK}, {acc(5, 3, 2), 1, acc(4, 3, 2), api.OK}, {acc(5, 3, 2), 6, api.Account{}, api.ErrShort}, {acc(0, 9, 2), 1, api.Account{}, api.ErrShort}, {acc(most, 0, 2), most, acc(0, 0, 2), api.OK},
			{acc(1, 2, 3), 0, api.Account{}, api.ErrArg}, {acc(1, 2, 3), -1, api.Account{}, api.ErrArg}, {acc(1, 2, 3), most + 1, api.Account{}, api.ErrArg}, {acc(1, 2, 3), math.MinInt, api.Account{}, api.ErrArg},
		} {
			got, e := do(x.a, x.n)
			is(t, got, e, x.want, x.e)
		}
		for _, a := range wrong() {
			got, e := do(a, 0)
			is(t, got, e, api.Account{}, api.ErrAccount)
		}
	}
}

func TestP20_2Quota(t *testing.T) {
	for _, n := range []int{0, 1, 7, most} {
		got, e := rights.Quota(acc(5, 3, 2), n)
		is(t, got, e, acc(5, 3, n), api.OK)
	}
	for _, n := range []int{math.MinInt, -1, most + 1, math.MaxInt} {
		got, e := rights.Quota(acc(5, 3, 2), n)
		is(t, got, e, api.Account{}, api.ErrArg)
	}
	for _, a := range wrong() {
		got, e := rights.Quota(a, -1)
		is(t, got, e, api.Account{}, api.ErrAccount)
	}
}

func TestP20_3Reserve(t *testing.T) {
	for _, x := range []struct {
		a    api.Account
		n    int
		want api.Account
		e    api.Errno
	}{
		{acc(5, 0, most), 3, acc(2, 3, most), api.OK}, {acc(5, 1, 6), 5, acc(0, 6, 6), api.OK}, {acc(5, 1, 5), 5, api.Account{}, api.ErrQuota}, {acc(5, 1, 0), 6, api.Account{}, api.ErrShort}, {acc(5, 9, 5), 1, api.Account{}, api.ErrQuota}, {acc(most, 0, most), most, acc(0, most, most), api.OK},
	} {
		got, e := rights.Reserve(x.a, api.Hold{N: x.n, Until: 9})
		is(t, got, e, x.want, x.e)
	}
}

func TestP20_3ConfirmCancelExpire(t *testing.T) {
	for _, x := range []struct {
		a                       api.Account
		n, until, now           int
		confirm, cancel, expire api.Account
		e1, e2, e3              api.Errno
	}{
		{acc(2, 3, 5), 3, 9, 9, acc(2, 0, 5), acc(5, 0, 5), acc(2, 3, 5), api.OK, api.OK, api.OK},
		{acc(2, 3, 5), 3, 9, 10, api.Account{}, acc(5, 0, 5), acc(5, 0, 5), api.ErrLate, api.OK, api.OK},
		{acc(2, 3, 5), 2, 0, 0, acc(2, 1, 5), acc(4, 1, 5), acc(2, 3, 5), api.OK, api.OK, api.OK},
		{acc(2, 3, 5), 4, 9, 9, api.Account{}, api.Account{}, acc(2, 3, 5), api.ErrShort, api.ErrShort, api.OK},
		{acc(2, 3, 5), 4, 9, 10, api.Account{}, api.Account{}, api.Account{}, api.ErrLate, api.ErrShort, api.ErrShort},
		{acc(0, most, 0), most, api.MaxTime, api.MaxTime, acc(0, 0, 0), acc(most, 0, 0), acc(0, most, 0), api.OK, api.OK, api.OK},
		{acc(0, most, 0), most, 0, api.MaxTime, api.Account{}, acc(most, 0, 0), acc(most, 0, 0), api.ErrLate, api.OK, api.OK},
	} {
		h := api.Hold{N: x.n, Until: x.until}
		got, e := rights.Confirm(x.a, h, x.now)
		is(t, got, e, x.confirm, x.e1)
		got, e = rights.Cancel(x.a, h)
		is(t, got, e, x.cancel, x.e2)
		got, e = rights.Expire(x.a, h, x.now)
		is(t, got, e, x.expire, x.e3)
	}
}

// allThree asks what takes an account and a hold, and fails if not all tell that error.
func allThree(t *testing.T, a api.Account, h api.Hold, now int, reserve, cancel, others api.Errno) {
	t.Helper()
	got, e := rights.Reserve(a, h)
	if e != reserve {
		t.Error(e)
	}
	if e != api.OK {
		is(t, got, e, api.Account{}, reserve)
	}
	got, e = rights.Cancel(a, h)
	if e != cancel || e != api.OK && got != (api.Account{}) {
		t.Error(e)
	}
	got, e = rights.Confirm(a, h, now)
	is(t, got, e, api.Account{}, others)
	got, e = rights.Expire(a, h, now)
	is(t, got, e, api.Account{}, others)
}

func TestP20_3Refused(t *testing.T) {
	for _, now := range []int{math.MinInt, -1, api.MaxTime + 1, math.MaxInt} {
		for _, a := range wrong() {
			allThree(t, a, api.Hold{N: 1}, now, api.ErrAccount, api.ErrAccount, api.ErrAccount)
		}
		for _, h := range wrongHolds() {
			allThree(t, acc(1, 2, 3), h, now, api.ErrAccount, api.ErrAccount, api.ErrAccount)
		}
		allThree(t, acc(1, 2, 3), api.Hold{N: 1, Until: 5}, now, api.OK, api.OK, api.ErrArg)
		allThree(t, acc(0, 0, 0), api.Hold{N: 1, Until: 5}, now, api.ErrShort, api.ErrShort, api.ErrArg)
	}
}

func TestP20_3Example(t *testing.T) {
	a, _ := rights.Grant(rights.Fresh(), 5)
	h := api.Hold{N: 3, Until: 9}
	a, e := rights.Reserve(a, h)
	is(t, a, e, acc(2, 3, most), api.OK)
	got, e := rights.Confirm(a, h, 10)
	is(t, got, e, api.Account{}, api.ErrLate)
	a, e = rights.Expire(a, h, 10)
	is(t, a, e, acc(5, 0, most), api.OK)
}

// nums are numbers' bytes by the chapter's words.
func nums(l ...uint64) []byte {
	var b []byte
	for _, n := range l {
		b = binary.AppendUvarint(b, n)
	}
	return b
}

func TestP20_4Bytes(t *testing.T) {
	for _, a := range good() {
		want := nums(uint64(a.Free), uint64(a.Held), uint64(a.Quota))
		if b, e := rights.AccountBytes(a); e != api.OK || !bytes.Equal(b, want) {
			t.Error(a, b, e)
		}
		if got, e := rights.ReadAccount(want); e != api.OK || got != a {
			t.Error(got, e)
		}
	}
	for _, a := range wrong() {
		if b, e := rights.AccountBytes(a); e != api.ErrAccount || len(b) > 0 {
			t.Error(a, e)
		}
	}
	for _, h := range []api.Hold{{N: 1}, {N: most, Until: api.MaxTime}, {N: 300, Until: 5}} {
		want := nums(uint64(h.N), uint64(h.Until))
		if b, e := rights.HoldBytes(h); e != api.OK || !bytes.Equal(b, want) {
			t.Error(h, b, e)
		}
		if got, e := rights.ReadHold(want); e != api.OK || got != h {
			t.Error(got, e)
		}
	}
	for _, h := range wrongHolds() {
		if b, e := rights.HoldBytes(h); e != api.ErrAccount || len(b) > 0 {
			t.Error(h, e)
		}
	}
}

func TestP20_4WrongBytes(t *testing.T) {
	for _, b := range [][]byte{nil, {0}, {0, 0}, {0, 0, 0, 0}, {128, 0, 0, 0}, {0, 0, 128}, {0, 0, 128, 0}, nums(most+1, 0, 0), nums(0, most+1, 0), nums(0, 0, most+1), nums(most, 1, 0), nums(math.MaxUint64, 0, 0), nums(1<<63, 0, 0), nums(0, math.MaxUint64, 2)} {
		if a, e := rights.ReadAccount(b); e != api.ErrAccount || a != (api.Account{}) {
			t.Error(b, a, e)
		}
	}
	for _, b := range [][]byte{nil, {1}, {0, 0}, {1, 0, 0}, {129, 0, 0}, nums(most+1, 0), nums(1, api.MaxTime+1), nums(math.MaxUint64, 1), nums(1, math.MaxUint64)} {
		if h, e := rights.ReadHold(b); e != api.ErrAccount || h != (api.Hold{}) {
			t.Error(b, h, e)
		}
	}
	r := rand.New(rand.NewPCG(20, 4))
	for range 100000 {
		b := make([]byte, r.IntN(6))
		for i := range b {
			b[i] = []byte{0, 1, 2, 127, 128, 129, 255}[r.IntN(7)]
		}
		if a, e := rights.ReadAccount(b); e == api.OK && !bytes.Equal(nums(uint64(a.Free), uint64(a.Held), uint64(a.Quota)), b) {
			t.Fatal(b, a)
		}
		if h, e := rights.ReadHold(b); e == api.OK && !bytes.Equal(nums(uint64(h.N), uint64(h.Until)), b) {
			t.Fatal(b, h)
		}
	}
}

// some is an account that may be, by chance.
func some(r *rand.Rand) api.Account {
	top := 1 << r.IntN(51)
	free := r.IntN(top + 1)
	return acc(free, r.IntN(most-free+1)>>r.IntN(51), r.IntN(top+1))
}

func TestP20_5NothingIsMadeOrLost(t *testing.T) {
	r := rand.New(rand.NewPCG(20, 5))
	done := 0
	for range 100000 {
		a := some(r)
		n, now := r.IntN(1<<r.IntN(52)), r.IntN(20)
		h := api.Hold{N: n, Until: r.IntN(20)}
		for i := range 9 {
			got, e, by := api.Account{}, api.OK, 0
			switch i {
			case 0:
				got, e = rights.Grant(a, n)
				by = n
			case 1:
				got, e = rights.Credit(a, n)
				by = n
			case 2:
				got, e = rights.Spend(a, n)
				by = -n
			case 3:
				got, e = rights.Debit(a, n)
				by = -n
			case 4:
				got, e = rights.Confirm(a, h, now)
				by = -n
			case 5:
				got, e = rights.Reserve(a, h)
			case 6:
				got, e = rights.Cancel(a, h)
			case 7:
				got, e = rights.Expire(a, h, now)
			case 8:
				got, e = rights.Quota(a, n)
			}
			if e != api.OK {
				continue
			}
			done++
			if rights.Check(got) != api.OK || got.Free+got.Held != a.Free+a.Held+by || i < 8 && got.Quota != a.Quota {
				t.Fatal(i, a, n, got)
			}
		}
	}
	if done < 100000 {
		t.Error(done)
	}
}

func TestP20_6TakenBack(t *testing.T) {
	r := rand.New(rand.NewPCG(20, 6))
	done := 0
	for range 100000 {
		a, h := some(r), api.Hold{N: 1 + r.IntN(1<<r.IntN(50)), Until: r.IntN(9)}
		b, e := rights.Reserve(a, h)
		if e != api.OK {
			continue
		}
		done++
		if c, e := rights.Cancel(b, h); e != api.OK || c != a {
			t.Fatal(a, h, c)
		}
	}
	if done < 10000 {
		t.Error(done)
	}
}
