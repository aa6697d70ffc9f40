package table_test

import (
	"bytes"
	"encoding/binary"
	"math"
	"math/rand/v2"
	"reflect"
	"slices"
	"strings"
	"testing"

	"lien/api"
	"lien/block"
	"lien/bloom"
	"lien/disk"
	"lien/file"
	"lien/table"
)

// alike tells whether two lists of entries are, where nil and empty values are one.
func alike(a, b []api.Entry) bool {
	return slices.EqualFunc(a, b, func(x, y api.Entry) bool {
		return x.Key == y.Key && x.Seq == y.Seq && x.Del == y.Del && string(x.Val) == string(y.Val)
	})
}

// ordered are entries in order, each once.
func ordered(l []api.Entry) []api.Entry {
	slices.SortFunc(l, func(a, b api.Entry) int {
		if c := strings.Compare(a.Key, b.Key); c != 0 {
			return c
		}
		return b.Seq - a.Seq
	})
	return slices.CompactFunc(l, func(a, b api.Entry) bool { return a.Key == b.Key && a.Seq == b.Seq })
}

// some are a table's entries by chance.
func some(r *rand.Rand, n int) []api.Entry {
	var l []api.Entry
	for range n {
		b := make([]byte, 1+r.IntN(3))
		for i := range b {
			b[i] = byte('a' + r.IntN(5))
		}
		e := api.Entry{Key: string(b), Seq: 1 + r.IntN(40), Del: r.IntN(5) == 0}
		if !e.Del {
			e.Val = bytes.Repeat([]byte{byte(r.Uint32())}, r.IntN(1+r.IntN(90)))
		}
		l = append(l, e)
	}
	return ordered(l)
}

// many are n entries of one byte each, and some bytes of value.
func many(n, size int) []api.Entry {
	var l []api.Entry
	for i := range n {
		l = append(l, api.Entry{Key: string([]byte{1 + byte(i/250), 1 + byte(i%250)}), Seq: n - i, Val: make([]byte, size)})
	}
	return l
}

// laid is bytes with index and foot as the chapter says, of blocks' bytes, a filter, an index.
func laid(blocks, filter, index []byte, count int) []byte {
	b := slices.Concat(blocks, filter, index)
	for _, n := range []int{len(filter), len(index), count} {
		b = binary.BigEndian.AppendUint32(b, uint32(n))
	}
	return b
}

// slow is a table's bytes by the chapter's words.
func slow(l []api.Entry) []byte {
	var rows [][]api.Entry
	size := 0
	for _, e := range l {
		n := len(e.Key) + len(e.Val) + 16
		if k := len(rows) - 1; k >= 0 && len(rows[k]) < 64 && size+n <= 256 {
			rows[k] = append(rows[k], e)
			size += n
			continue
		}
		rows, size = append(rows, []api.Entry{e}), n
	}
	var keys []string
	for _, e := range l {
		keys = append(keys, e.Key)
	}
	filter, _ := bloom.Make(slices.Compact(keys), 10)
	var blocks []byte
	index := binary.AppendUvarint(nil, uint64(len(rows)))
	for _, r := range rows {
		b, _ := block.Encode(r...)
		last := r[len(r)-1].Key
		blocks = append(blocks, b...)
		index = binary.AppendUvarint(index, uint64(len(b)))
		index = append(binary.AppendUvarint(index, uint64(len(last))), last...)
	}
	return laid(blocks, filter, index, len(l))
}

// place is one of n pairs, from a plot on.
func place(from, n int) api.Place {
	p := api.Place{ID: 3, Epoch: 2}
	for i := range n {
		p.Pairs = append(p.Pairs, api.Pair{A: from + 2*i, B: from + 2*i + 1})
	}
	return p
}

// blank is a disk that must be made.
func blank(t *testing.T, sectors int) *disk.Disk {
	t.Helper()
	d, e := disk.New(sectors)
	if e != api.OK {
		t.Fatal(e)
	}
	return d
}

// written is a disk on which bytes stand as a table.
func written(t *testing.T, b []byte) (*disk.Disk, api.Table) {
	t.Helper()
	d := blank(t, 2000)
	p := place(1, table.Need(len(b)))
	if e := table.Write(d, p, 2, b); e != api.OK {
		t.Fatal(e)
	}
	return d, api.Table{Place: p, Size: len(b)}
}

// opened is a table of entries that was written, and its disk.
func opened(t *testing.T, l []api.Entry) (*table.Table, *disk.Disk, api.Table) {
	t.Helper()
	d, x := written(t, slow(l))
	x.Count = len(l)
	o, e := table.Open(d, x)
	if e != api.OK || o == nil {
		t.Fatal(e)
	}
	return o, d, x
}

// wrong are entries that make no table.
func wrong() [][]api.Entry {
	return [][]api.Entry{
		nil, {{}}, {{Key: "a"}}, {{Key: "", Seq: 1}}, {{Key: "a", Seq: 1, Del: true, Val: []byte{1}}}, {{Key: "a", Seq: api.MaxSeq + 1}}, {{Key: "a", Seq: 1, Val: make([]byte, 257)}},
		{{Key: "b", Seq: 1, Val: make([]byte, 240)}, {Key: "a", Seq: 1, Val: make([]byte, 240)}}, {{Key: "a", Seq: 1, Val: make([]byte, 240)}, {Key: "a", Seq: 1, Val: make([]byte, 240)}}, {{Key: "a", Seq: 1, Val: make([]byte, 240)}, {Key: "a", Seq: 2}},
		{{Key: "b", Seq: 1}, {Key: "a", Seq: 1}}, {{Key: "a", Seq: 1}, {Key: "a", Seq: 1}}, {{Key: "a", Seq: 1}, {Key: "a", Seq: 2}}, {{Key: "a", Seq: 2}, {Key: "a", Seq: 1}, {Key: "", Seq: 1}},
	}
}

func TestP13_1Build(t *testing.T) {
	b, e := table.Build(api.Entry{Key: "a", Seq: 1, Val: []byte("x")})
	if e != api.OK || len(b) != 34 || !bytes.Equal(b[:9], []byte{0, 1, 97, 2, 1, 120, 0, 0, 1}) || !bytes.Equal(b[18:], []byte{1, 9, 1, 97, 0, 0, 0, 9, 0, 0, 0, 4, 0, 0, 0, 1}) {
		t.Error(b, e)
	}
	r := rand.New(rand.NewPCG(13, 1))
	l := [][]api.Entry{many(64, 0), many(65, 0), many(200, 0), many(14, 0), many(15, 0), many(300, 256)}
	for _, n := range []int{236, 237, 238, 239, 240} {
		l = append(l, []api.Entry{{Key: "a", Seq: 1, Val: make([]byte, n)}, {Key: "b", Seq: 1}}, []api.Entry{{Key: "a", Seq: 2}, {Key: "a", Seq: 1, Val: make([]byte, n-17)}})
	}
	for range 300 {
		l = append(l, some(r, 1+r.IntN(80)))
	}
	for _, x := range l {
		b, e := table.Build(x...)
		if want := slow(x); len(want) <= 55296 && (e != api.OK || !bytes.Equal(b, want)) || len(want) > 55296 && (e != api.ErrLong || len(b) > 0) {
			t.Fatal(len(x), len(b), e)
		}
	}
	for i, x := range wrong() {
		if b, e := table.Build(x...); e != api.ErrTable || len(b) > 0 {
			t.Error(i, e)
		}
	}
}

func TestP13_1BuildAtTheEdges(t *testing.T) {
	if b, e := table.Build(many(4097, 0)...); e != api.ErrMany || len(b) > 0 {
		t.Error(e)
	}
	if b, e := table.Build(many(4096, 256)...); e != api.ErrLong || len(b) > 0 {
		t.Error(e)
	}
	n := 1
	for len(slow(many(n+1, 256))) <= 55296-400 {
		n++
	}
	for more := -1; more <= 1; more++ {
		l := append(many(n, 256), api.Entry{Key: "\xfe", Seq: 1}, api.Entry{Key: "\xff", Seq: 1})
		for i := range 512 {
			if len(slow(l)) < 55296+more {
				l[n+i/256].Val = make([]byte, i%256+1)
			}
		}
		if len(slow(l)) != 55296+more {
			t.Fatal("no such size", len(slow(l)))
		}
		b, e := table.Build(l...)
		if more <= 0 && (e != api.OK || len(b) != 55296+more) || more > 0 && (e != api.ErrLong || len(b) > 0) {
			t.Error(more, e, len(b))
		}
	}
}

func TestP13_1Of(t *testing.T) {
	r := rand.New(rand.NewPCG(13, 2))
	for range 200 {
		l := some(r, 1+r.IntN(50))
		top := 0
		for _, e := range l {
			top = max(top, e.Seq)
		}
		want := api.Table{Size: len(slow(l)), Count: len(l), Low: l[0].Key, High: l[len(l)-1].Key, Top: top}
		if got := table.Of(l...); !reflect.DeepEqual(got, want) {
			t.Fatal(got, want)
		}
	}
	for _, l := range append(wrong(), many(4097, 0), many(300, 256)) {
		if got := table.Of(l...); !reflect.DeepEqual(got, api.Table{}) {
			t.Error(got)
		}
	}
}

func TestP13_1Need(t *testing.T) {
	for size, want := range map[int]int{math.MinInt: 0, -1: 0, 0: 0, 1: 1, 864: 1, 865: 2, 1728: 2, 1729: 3, 55296: 64, 55297: 65, math.MaxInt: math.MaxInt/864 + 1} {
		if got := table.Need(size); got != want {
			t.Error(size, got)
		}
	}
}

func TestP13_2Write(t *testing.T) {
	for _, n := range []int{1, 107, 108, 109, 864, 865, 1500} {
		b := make([]byte, n)
		for i := range b {
			b[i] = byte(i * 7)
		}
		d := blank(t, 200)
		p := place(2, table.Need(n))
		if e := table.Write(d, p, 5, b); e != api.OK || len(d.Loose()) > 0 {
			t.Fatal(e)
		}
		frames := (n + 107) / 108
		for i := range file.Frames(p) {
			got, epoch, e := file.Read(d, p, api.FTable, i)
			if i >= frames {
				if e != api.ErrRot {
					t.Error(n, i, e)
				}
			} else if e != api.OK || epoch != 5 || !bytes.Equal(got, b[i*108:min(n, i*108+108)]) {
				t.Error(n, i, e)
			}
		}
		if d.Done() != 2*frames+1 {
			t.Error(n, d.Done())
		}
		for fuse := range 2*frames + 1 {
			d := blank(t, 200)
			d.Fuse(fuse)
			if e := table.Write(d, p, 5, b); e != api.ErrDown || d.Done() != fuse {
				t.Error(n, fuse, e)
			}
		}
	}
}

func TestP13_2WriteRefused(t *testing.T) {
	d := blank(t, 200)
	if table.Write(nil, api.Place{}, 0, nil) != api.ErrTable || table.Write(d, place(0, 1), 2, []byte{}) != api.ErrTable || table.Write(nil, place(0, 1), 2, []byte{1}) != api.ErrNil {
		t.Error("nothing, no disk")
	}
	if table.Write(d, api.Place{}, 2, []byte{1}) != api.ErrFile || table.Write(d, place(0, 1), 1, []byte{1}) != api.ErrArg || d.Done() != 0 {
		t.Error("file's errors")
	}
	if table.Write(d, place(0, 1), 2, make([]byte, 865)) != api.ErrEnd || d.Done() != 16 {
		t.Error("longer than its place", d.Done())
	}
}

func TestP13_3OpenRefused(t *testing.T) {
	l := many(30, 9)
	_, d, x := opened(t, l)
	try := func(why string, want api.Errno, change func(d *disk.Disk, t *api.Table)) {
		t.Helper()
		c, _ := d.Crash()
		y := x
		y.Place.Pairs = slices.Clone(x.Place.Pairs)
		change(c, &y)
		if o, e := table.Open(c, y); e != want || (o != nil) != (want == api.OK) {
			t.Error(why, e)
		}
	}
	for _, n := range []int{math.MinInt, -1, 0, 11, 55297, math.MaxInt} {
		try("size", api.ErrTable, func(_ *disk.Disk, t *api.Table) { t.Size, t.Place = n, api.Place{} })
	}
	try("a size of no frame", api.ErrEnd, func(_ *disk.Disk, t *api.Table) { t.Size = 55296 })
	try("a byte less", api.ErrTable, func(_ *disk.Disk, t *api.Table) { t.Size-- })
	try("a byte more", api.ErrTable, func(_ *disk.Disk, t *api.Table) { t.Size++ })
	try("count", api.ErrTable, func(_ *disk.Disk, t *api.Table) { t.Count++ })
	try("count", api.ErrTable, func(_ *disk.Disk, t *api.Table) { t.Count = 0 })
	try("place", api.ErrFile, func(_ *disk.Disk, t *api.Table) { t.Place.Pairs[0].A = 999 })
	try("another file", api.ErrRot, func(_ *disk.Disk, t *api.Table) { t.Place.ID++ })
	try("a later epoch", api.ErrRot, func(_ *disk.Disk, t *api.Table) { t.Place.Epoch = 3 })
	try("down", api.ErrDown, func(d *disk.Disk, _ *api.Table) { d.Fuse(0) })
	try("nothing else is looked at", api.OK, func(_ *disk.Disk, t *api.Table) { t.Level, t.Low, t.High, t.Top = -7, "x", "", -1 })
	for _, none := range []*disk.Disk{nil, {}} {
		if o, e := table.Open(none, x); e != api.ErrNil || o != nil {
			t.Error(e)
		}
	}
	frames := (x.Size + 107) / 108
	blocks := 0
	for i := range frames {
		a, b, _ := file.Sectors(x.Place, i)
		c, _ := d.Crash()
		c.Rot(a, 50, 1)
		if _, e := table.Open(c, x); e != api.OK {
			t.Error("one copy", i, e)
		}
		c.Rot(b, 50, 1)
		if _, e := table.Open(c, x); e == api.OK {
			blocks++
		} else if e != api.ErrRot {
			t.Error("both copies", i, e)
		}
	}
	if blocks < 4 || blocks >= frames {
		t.Error("it reads just the foot, the filter, the index", blocks, frames)
	}
}

func TestP13_3OpenOfNone(t *testing.T) {
	blocks, _ := block.Encode(many(5, 3)...)
	filter, _ := bloom.Make([]string{"a"}, 10)
	n := len(blocks)
	index := func(count int, rows ...any) []byte {
		b := binary.AppendUvarint(nil, uint64(count))
		for _, x := range rows {
			switch v := x.(type) {
			case int:
				b = binary.AppendUvarint(b, uint64(v))
			case string:
				b = append(binary.AppendUvarint(b, uint64(len(v))), v...)
			}
		}
		return b
	}
	for i, x := range []struct {
		b    []byte
		want api.Errno
	}{
		{laid(blocks, filter, index(1, n, "a"), 5), api.OK},
		{laid(blocks, filter, index(1, n, strings.Repeat("k", 64)), 5), api.OK},
		{laid(blocks, filter, index(1, n, ""), 5), api.OK},
		{laid(blocks, filter, index(2, n-1, "a", 1, "a"), 5), api.OK},
		{laid(blocks, filter, index(2, n-1, "a", 1, "b"), 5), api.OK},
		{laid(blocks, filter, index(2, n-1, "b", 1, "a"), 5), api.ErrTable},
		{laid(blocks, filter, index(1, n, strings.Repeat("k", 65)), 5), api.ErrTable},
		{laid(blocks, filter, index(1, n-1, "a"), 5), api.ErrTable},
		{laid(blocks, filter, index(1, n+1, "a"), 5), api.ErrTable},
		{laid(blocks, filter, index(2, n, "a", 0, "a"), 5), api.ErrTable},
		{laid(blocks, filter, index(2, 0, "a", n, "a"), 5), api.ErrTable},
		{laid(blocks, filter, index(2, n, "a"), 5), api.ErrTable},
		{laid(blocks, filter, index(1, n, "a", 7), 5), api.ErrTable},
		{laid(blocks, filter, index(1, n), 5), api.ErrTable},
		{laid(blocks, filter, index(0), 5), api.ErrTable},
		{laid(nil, filter, index(0), 5), api.ErrTable},
		{laid(blocks, filter, nil, 5), api.ErrTable},
		{laid(blocks, nil, index(1, n, "a"), 5), api.ErrTable},
		{laid(blocks, nil, nil, 5), api.ErrTable},
		{laid(nil, nil, nil, 5), api.ErrTable},
		{laid(blocks, filter[:8], index(1, n, "a"), 5), api.ErrTable},
		{laid(blocks, append([]byte{0}, filter[1:]...), index(1, n, "a"), 5), api.ErrTable},
		{laid(blocks, filter, index(1, n, "a"), 6), api.ErrTable},
		{laid(blocks, filter, append([]byte{129, 0}, index(n, "a")...), 5), api.ErrTable},
		{laid(blocks, filter, index(math.MaxInt, n, "a"), 5), api.ErrTable},
		{laid(blocks, filter, index(2, math.MaxInt, "a", n, "a"), 5), api.ErrTable},
		{laid(blocks, filter, index(3, math.MaxInt, "a", math.MaxInt, "a", n+2, "a"), 5), api.ErrTable},
		{slices.Concat(blocks, filter, index(1, n, "a"), bytes.Repeat([]byte{255}, 12)), api.ErrTable},
		{slices.Concat(blocks, filter, index(1, n, "a"), []byte{0, 0, 0, 10, 0, 0, 0, byte(len(index(1, n, "a"))), 0, 0, 0, 5}), api.ErrTable},
	} {
		d, y := written(t, x.b)
		y.Count = 5
		if o, e := table.Open(d, y); e != x.want || (o != nil) != (e == api.OK) {
			t.Error(i, e)
		}
	}
}

func TestRulesNobodyMadeIt(t *testing.T) {
	for _, x := range []*table.Table{nil, {}} {
		e1, ok, e := x.Get("a", 1)
		a, e2 := x.All()
		b, e3 := x.Range("", "")
		if e != api.ErrNil || ok || e1.Key != "" || e2 != api.ErrNil || e3 != api.ErrNil || len(a)+len(b) > 0 {
			t.Error(e, e2, e3)
		}
	}
}

// newest is what a plain list tells: the entry of a key with the greatest Seq that is not above seq.
func newest(l []api.Entry, key string, seq int) []api.Entry {
	for _, e := range l {
		if e.Key == key && e.Seq <= seq {
			return []api.Entry{e}
		}
	}
	return nil
}

// keysOf are keys to ask for: those that are there, and others.
func keysOf(l []api.Entry) []string {
	keys := []string{"", "a", "zz", "\xff", strings.Repeat("q", 90)}
	for _, e := range l {
		keys = append(keys, e.Key, e.Key+"a", e.Key[:len(e.Key)-1])
	}
	return keys
}

func TestP13_4Get(t *testing.T) {
	r := rand.New(rand.NewPCG(13, 4))
	l := [][]api.Entry{many(100, 0)}
	var one []api.Entry
	for i := range 90 {
		one = append(one, api.Entry{Key: "m", Seq: 90 - i, Val: make([]byte, 20)})
	}
	l = append(l, one, append(append([]api.Entry{{Key: "a", Seq: 1}}, one...), api.Entry{Key: "x", Seq: 3}))
	for range 40 {
		l = append(l, some(r, 1+r.IntN(100)))
	}
	for _, x := range l {
		o, _, _ := opened(t, x)
		for _, k := range keysOf(x) {
			for _, seq := range []int{math.MinInt, 0, 1, 5, 20, 39, 88, math.MaxInt} {
				want := newest(x, k, seq)
				got, ok, e := o.Get(k, seq)
				if e != api.OK || ok != (len(want) > 0) || ok && !alike([]api.Entry{got}, want) || !ok && got.Key != "" {
					t.Fatal(k, seq, got, ok, e, want)
				}
			}
		}
	}
}

func TestP13_4GetReadsNoMoreThanItMust(t *testing.T) {
	l := many(60, 40)
	o, d, x := opened(t, l)
	a, b, _ := file.Sectors(x.Place, 0)
	d.Rot(a, 60, 1)
	d.Rot(b, 60, 1)
	told := map[api.Errno]int{}
	for _, e := range l {
		got, ok, err := o.Get(e.Key, 99)
		told[err]++
		if err == api.OK && (!ok || !alike([]api.Entry{got}, []api.Entry{e})) || err != api.OK && ok {
			t.Error(e.Key, err)
		}
	}
	if told[api.ErrRot] != 4 && told[api.ErrRot] != 8 || told[api.OK]+told[api.ErrRot] != 60 {
		t.Error(told)
	}
	if _, ok, e := o.Get(l[0].Key+"\x01", 9); e != api.OK || ok {
		t.Error("what the filter has not is not read", e)
	}
	if _, ok, e := o.Get("\xff", 9); e != api.OK || ok {
		t.Error(e)
	}
}

func TestP13_5AllAndRange(t *testing.T) {
	r := rand.New(rand.NewPCG(13, 5))
	for range 60 {
		l := some(r, 1+r.IntN(120))
		o, _, _ := opened(t, l)
		if got, e := o.All(); e != api.OK || !alike(got, l) {
			t.Fatal(e)
		}
		keys := keysOf(l)
		for range 150 {
			low, high := keys[r.IntN(len(keys))], keys[r.IntN(len(keys))]
			var want []api.Entry
			for _, e := range l {
				if e.Key >= low && (high == "" || e.Key < high) {
					want = append(want, e)
				}
			}
			if got, e := o.Range(low, high); e != api.OK || !alike(got, want) {
				t.Fatal(low, high, len(got), len(want), e)
			}
		}
	}
}

func TestP13_5RangeReadsNoMoreThanItMust(t *testing.T) {
	l := many(60, 230) // a block each
	o, d, x := opened(t, l)
	from := 0
	var ends []int
	for i := range l {
		b, _ := block.Encode(l[i])
		from += len(b)
		ends = append(ends, from)
	}
	rot := 3 // the block all of whose frames rot
	for i := (ends[rot-1]) / 108; i <= (ends[rot]-1)/108; i++ {
		a, b, _ := file.Sectors(x.Place, i)
		d.Rot(a, 60, 1)
		d.Rot(b, 60, 1)
	}
	if got, e := o.All(); e != api.ErrRot || len(got) > 0 {
		t.Error(e)
	}
	for low := range 60 {
		for high := range 60 {
			want := api.OK
			if low <= high && low <= rot+1 && high >= rot-1 {
				want = api.ErrRot
			}
			got, e := o.Range(l[low].Key, l[high].Key)
			if e != want || e != api.OK && len(got) > 0 || e == api.OK && len(got) != max(0, high-low) {
				t.Fatal(low, high, e, len(got))
			}
		}
	}
	if got, e := o.Range(l[5].Key+"\x00", ""); e != api.OK || len(got) != 54 {
		t.Error(e, len(got))
	}
}

func TestP13_5BytesOfNoBlock(t *testing.T) {
	filter, _ := bloom.Make([]string{"a"}, 10)
	d, x := written(t, laid([]byte{9, 9, 9}, filter, []byte{1, 3, 1, 97}, 5))
	x.Count = 5
	o, e := table.Open(d, x)
	if e != api.OK {
		t.Fatal(e)
	}
	_, ok, e1 := o.Get("a", 1)
	l, e2 := o.All()
	m, e3 := o.Range("", "")
	if e1 != api.ErrTable || e2 != api.ErrTable || e3 != api.ErrTable || ok || len(l)+len(m) > 0 {
		t.Error(e1, e2, e3)
	}
	if got, e := o.Range("b", ""); e != api.OK || len(got) > 0 {
		t.Error(e)
	}
}

func TestP13_3FramesOfOtherLengths(t *testing.T) {
	l := many(30, 9)
	_, d, x := opened(t, l)
	for i := range (x.Size + 107) / 108 {
		c, _ := d.Crash()
		b, _, _ := file.Read(c, x.Place, api.FTable, i)
		file.Write(c, x.Place, api.FTable, 2, i, b[:len(b)-1])
		o, e := table.Open(c, x)
		if e == api.OK {
			_, e = o.All()
		}
		if e != api.ErrTable {
			t.Error(i, e)
		}
	}
}

func TestP13_6ThereAndBack(t *testing.T) {
	r := rand.New(rand.NewPCG(13, 6))
	for range 100 {
		l := some(r, 1+r.IntN(150))
		b, e := table.Build(l...)
		if e != api.OK {
			t.Fatal(e)
		}
		d, _ := written(t, b)
		x := table.Of(l...)
		x.Place = place(1, table.Need(x.Size))
		o, e := table.Open(d, x)
		if e != api.OK {
			t.Fatal(e)
		}
		if got, e := o.All(); e != api.OK || !alike(got, l) {
			t.Fatal(e)
		}
		for _, e := range l {
			if got, ok, err := o.Get(e.Key, e.Seq); err != api.OK || !ok || !alike([]api.Entry{got}, []api.Entry{e}) {
				t.Fatal(e, got, err)
			}
		}
	}
}

// rotten spoils copies of a table's frames: of each frame one, or by chance both.
func rotten(r *rand.Rand, d *disk.Disk, x api.Table, both bool) {
	for i := range (x.Size + 107) / 108 {
		a, b, _ := file.Sectors(x.Place, i)
		if r.IntN(2) == 0 {
			a, b = b, a
		}
		d.Rot(a, r.IntN(128), byte(1+r.IntN(255)))
		if both && r.IntN(12) == 0 {
			d.Rot(b, r.IntN(128), byte(1+r.IntN(255)))
		}
	}
}

func TestP13_7OneCopy(t *testing.T) {
	r := rand.New(rand.NewPCG(13, 7))
	for range 100 {
		l := some(r, 1+r.IntN(100))
		_, d, x := opened(t, l)
		rotten(r, d, x, false)
		o, e := table.Open(d, x)
		if e != api.OK {
			t.Fatal(e)
		}
		if got, e := o.All(); e != api.OK || !alike(got, l) {
			t.Fatal(e)
		}
		for _, e := range l {
			if got, ok, err := o.Get(e.Key, e.Seq); err != api.OK || !ok || !alike([]api.Entry{got}, []api.Entry{e}) {
				t.Fatal(err)
			}
		}
	}
}

func TestP13_8RightOrAnError(t *testing.T) {
	r := rand.New(rand.NewPCG(13, 8))
	right, wrong := 0, 0
	for range 300 {
		l := some(r, 1+r.IntN(100))
		o, d, x := opened(t, l)
		rotten(r, d, x, true)
		if other, e := table.Open(d, x); e == api.OK {
			o = other
		}
		if got, e := o.All(); e == api.OK && !alike(got, l) || e != api.OK && len(got) > 0 {
			t.Fatal(e)
		}
		for _, k := range keysOf(l) {
			want := newest(l, k, 20)
			got, ok, e := o.Get(k, 20)
			if e != api.OK {
				wrong++
				continue
			}
			right++
			if ok != (len(want) > 0) || ok && !alike([]api.Entry{got}, want) {
				t.Fatal(k, got, want)
			}
		}
	}
	if right == 0 || wrong == 0 {
		t.Error(right, wrong)
	}
}

func TestRulesOwnMemory(t *testing.T) {
	l := []api.Entry{{Key: "a", Seq: 1, Val: []byte("abc")}}
	o, d, x := opened(t, l)
	x.Place.Pairs[0] = api.Pair{A: 77, B: 78}
	l[0].Val[0] = 'z'
	b, _ := table.Build(l...)
	l[0].Val[0] = 'q'
	got, _, _ := o.Get("a", 1)
	got.Val[1] = 'y'
	all, _ := o.All()
	if string(all[0].Val) != "abc" || !bytes.Contains(b, []byte("zbc")) || d.Size() != 2000 {
		t.Error(all)
	}
}
