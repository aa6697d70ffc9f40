package edit_test

import (
	"bytes"
	"encoding/binary"
	"math"
	"math/rand/v2"
	"reflect"
	"slices"
	"strings"
	"testing"

	"lien/api"
	"lien/edit"
)

// place is one of n pairs, from a plot on.
func place(id, from, n int) api.Place {
	p := api.Place{ID: id, Epoch: 1}
	for i := range n {
		p.Pairs = append(p.Pairs, api.Pair{A: from + 2*i, B: from + 2*i + 1})
	}
	return p
}

// tab is a table of one pair.
func tab(id, from, level int, low, high string) api.Table {
	return api.Table{Place: place(id, from, 1), Size: 100, Level: level, Count: 2, Low: low, High: high, Top: 3}
}

// good is a version with all there may be.
func good() api.Version {
	return api.Version{Next: 20, Seq: 9, Logs: []api.Log{{Place: place(2, 0, 2), Sealed: 4}, {Place: place(5, 4, 1), Sealed: 0}, {Place: place(9, 6, 1), Sealed: -1}},
		Tables: []api.Table{tab(3, 10, 0, "a", "m"), tab(4, 12, 0, "c", "z"), tab(7, 14, 1, "a", "c"), tab(8, 16, 1, "d", "d"), tab(12, 18, 2, "b", "x"), tab(19, 20, 3, "b", "b")}}
}

// goods are versions that may be, at the edges.
func goods() []api.Version {
	m := api.MaxStamp
	full := api.Version{Next: 500, Seq: api.MaxSeq}
	for i := range api.MaxLogs {
		full.Logs = append(full.Logs, api.Log{Place: place(1+2*i, 2*i, 1), Sealed: api.MaxSeq})
	}
	for i := range api.MaxTables {
		t := tab(2+2*i, 100+2*i, i%4, string([]byte{byte(i), 0}), string([]byte{byte(i), 1}))
		t.Top, t.Count, t.Size = api.MaxSeq, 1<<20, 864
		full.Tables = append(full.Tables, t)
	}
	big := tab(m-1, 0, 3, strings.Repeat("k", 64), strings.Repeat("k", 64))
	big.Place = place(m-1, 300, 64)
	big.Size, big.Place.Epoch = 64*864, m
	return []api.Version{good(), full, {Next: 1}, {Next: m, Seq: api.MaxSeq}, {Next: m, Seq: 3, Tables: []api.Table{big}}, {Next: 3, Logs: []api.Log{{Place: place(2, 509, 1), Sealed: -1}}}, {Next: 3, Logs: []api.Log{{Place: place(2, 509, 1), Sealed: 0}}}}
}

// change is good, changed.
func change(do func(v *api.Version)) api.Version {
	v := good()
	do(&v)
	return v
}

// bads are versions that may not be.
func bads() []api.Version {
	l := []api.Version{{}}
	add := func(do func(v *api.Version)) { l = append(l, change(do)) }
	for _, n := range []int{math.MinInt, -1, 0, api.MaxStamp + 1, math.MaxInt, 19, 1} {
		add(func(v *api.Version) { v.Next = n })
	}
	for _, n := range []int{math.MinInt, -1, api.MaxSeq + 1, math.MaxInt, 2} {
		add(func(v *api.Version) { v.Seq = n })
	}
	for _, n := range []int{math.MinInt, -2, api.MaxSeq + 1, math.MaxInt} {
		add(func(v *api.Version) { v.Logs[0].Sealed = n })
		add(func(v *api.Version) { v.Logs[2].Sealed = n })
	}
	add(func(v *api.Version) { v.Logs[0].Sealed = -1 })
	add(func(v *api.Version) { v.Logs[1].Sealed = -1 })
	for _, p := range badPlaces() {
		add(func(v *api.Version) { v.Logs[1].Place = p })
		add(func(v *api.Version) { v.Tables[5].Place = p })
	}
	for _, x := range badTables() {
		add(func(v *api.Version) { v.Tables = append(v.Tables[:3], x) })
	}
	add(func(v *api.Version) { v.Logs[1].Place.ID = 2 })
	add(func(v *api.Version) { v.Logs[1].Place.ID = 1 })
	add(func(v *api.Version) { v.Logs[1].Place.ID = 10 })
	add(func(v *api.Version) { v.Tables[1].Place.ID = 3 })
	add(func(v *api.Version) { v.Tables[1].Place.ID = 2 })
	add(func(v *api.Version) { v.Tables[0].Place.ID = 4 })
	add(func(v *api.Version) { v.Tables[0].Place.ID, v.Tables[1].Place.ID = 4, 3 })
	add(func(v *api.Version) { v.Logs[0].Place.ID, v.Logs[1].Place.ID = 5, 2 })
	add(func(v *api.Version) { v.Tables[2].Place.ID = 5 })
	add(func(v *api.Version) { v.Tables[5].Place.ID = 20 })
	add(func(v *api.Version) { v.Logs[2].Place.ID = 20 })
	add(func(v *api.Version) { v.Tables[0].Place.Pairs[0].B = 0 })
	add(func(v *api.Version) { v.Logs[0].Place.Pairs[1].A = 4 })
	add(func(v *api.Version) { v.Tables[1].Place.Pairs[0].A = 10 })
	add(func(v *api.Version) { v.Tables[4].Top = 10 })
	for _, x := range [][2]string{{"a", "a"}, {"c", "c"}, {"b", "b"}, {"a", "c"}, {"c", "d"}, {"", "a"}, {"d", "e"}, {"a", "z"}, {"Z", "a"}, {"cz", "dz"}} {
		add(func(v *api.Version) { v.Tables[5].Level, v.Tables[5].Low, v.Tables[5].High = 1, x[0], x[1] })
	}
	add(func(v *api.Version) { v.Tables[5].Level = 2 })
	long := goods()[1]
	long.Logs = append(slices.Clone(long.Logs), api.Log{Place: place(499, 400, 1)})
	l = append(l, long)
	long = goods()[1]
	long.Tables = append(slices.Clone(long.Tables), tab(499, 400, 0, "a", "a"))
	return append(l, long)
}

// badPlaces are places that may not be.
func badPlaces() []api.Place {
	l := []api.Place{{}, place(6, 0, 0), place(6, 100, 65), place(6, 510, 1), {ID: 6, Epoch: 1, Pairs: []api.Pair{{A: -1, B: 100}}}, {ID: 6, Epoch: 1, Pairs: []api.Pair{{A: 100, B: 511}}}, {ID: 6, Epoch: 1, Pairs: []api.Pair{{A: 100, B: 100}}},
		{ID: 6, Epoch: 1, Pairs: []api.Pair{{A: 100, B: 101}, {A: 102, B: 100}}}, {ID: 6, Epoch: 1, Pairs: []api.Pair{{A: math.MinInt, B: math.MaxInt}}}}
	for _, n := range []int{math.MinInt, -1, 0, api.MaxStamp + 1, math.MaxInt} {
		a, b := place(6, 100, 1), place(6, 100, 1)
		a.ID, b.Epoch = n, n
		l = append(l, a, b)
	}
	return l
}

// badTables are tables that may not be.
func badTables() []api.Table {
	var l []api.Table
	add := func(do func(t *api.Table)) {
		t := tab(15, 200, 0, "a", "b")
		do(&t)
		l = append(l, t)
	}
	for _, p := range badPlaces() {
		add(func(t *api.Table) { t.Place = p })
	}
	for _, n := range []int{math.MinInt, -1, math.MaxInt} {
		add(func(t *api.Table) { t.Size = n })
		add(func(t *api.Table) { t.Level = n })
		add(func(t *api.Table) { t.Count = n })
		add(func(t *api.Table) { t.Top = n })
	}
	for _, do := range []func(t *api.Table){
		func(t *api.Table) { t.Size = 11 }, func(t *api.Table) { t.Size = 865 }, func(t *api.Table) { t.Level = 4 }, func(t *api.Table) { t.Count = 0 }, func(t *api.Table) { t.Count = 1<<20 + 1 },
		func(t *api.Table) { t.Top = 0 }, func(t *api.Table) { t.Top = api.MaxSeq + 1 }, func(t *api.Table) { t.Low = "" }, func(t *api.Table) { t.Low, t.High = "", "" }, func(t *api.Table) { t.High = strings.Repeat("k", 65) },
		func(t *api.Table) { t.Low, t.High = strings.Repeat("a", 65), "b" }, func(t *api.Table) { t.Low = "c" },
	} {
		add(do)
	}
	return l
}

func TestP15_1Check(t *testing.T) {
	for i, v := range goods() {
		if e := edit.Check(v); e != api.OK {
			t.Error(i, e)
		}
	}
	for i, v := range bads() {
		if e := edit.Check(v); e != api.ErrVersion {
			t.Error(i, e, v)
		}
		if got, n, e := edit.Apply(v, api.Edit{}); e != api.ErrVersion || n != 0 || !reflect.DeepEqual(got, api.Version{}) {
			t.Error(i, e)
		}
	}
	for _, x := range [][2]string{{"ca", "cz"}, {"e", "z"}, {"Z", "Zz"}, {"dd", "dd"}, {"cz", "cz"}} {
		v := change(func(v *api.Version) { v.Tables[5].Level, v.Tables[5].Low, v.Tables[5].High = 1, x[0], x[1] })
		if edit.Check(v) != api.OK {
			t.Error("they lie apart", x)
		}
	}
}

// edits are edits that may be, one of each kind and of each edge.
func edits() []api.Edit {
	m := api.MaxStamp
	far := place(m, 300, 64)
	far.Epoch = m
	big := api.Table{Place: far, Size: 64 * 864, Level: 3, Count: 1 << 20, Low: strings.Repeat("k", 64), High: strings.Repeat("k", 64), Top: api.MaxSeq}
	small := api.Table{Place: place(1, 0, 1), Size: 12, Count: 1, Low: "\x00", High: "\x00", Top: 1}
	return []api.Edit{{Kind: api.ENext, N: 1}, {Kind: api.ENext, N: m}, {Kind: api.ESeq}, {Kind: api.ESeq, N: api.MaxSeq}, {Kind: api.EAddLog, Place: place(1, 0, 1)}, {Kind: api.EAddLog, Place: far}, {Kind: api.ESeal, ID: 1}, {Kind: api.ESeal, ID: m, N: api.MaxSeq},
		{Kind: api.EDropLog, ID: 1}, {Kind: api.EDropLog, ID: m}, {Kind: api.EDropTable, ID: 1}, {Kind: api.EDropTable, ID: m}, {Kind: api.EAddTable, Table: big}, {Kind: api.EAddTable, Table: small}}
}

// badEdits are edits that may not be.
func badEdits() []api.Edit {
	var l []api.Edit
	for _, k := range []int{math.MinInt, -1, 0, 8, 256 + 1, math.MaxInt} {
		l = append(l, api.Edit{Kind: api.EditKind(k), ID: 1, N: 1}, api.Edit{Kind: api.EditKind(k)}, api.Edit{Kind: api.EditKind(k), N: 5}, api.Edit{Kind: api.EditKind(k), ID: 5})
	}
	for _, n := range []int{math.MinInt, -1, math.MaxInt} {
		l = append(l, api.Edit{Kind: api.ENext, N: n}, api.Edit{Kind: api.ESeq, N: n}, api.Edit{Kind: api.ESeal, ID: n}, api.Edit{Kind: api.ESeal, ID: 1, N: n}, api.Edit{Kind: api.EDropLog, ID: n}, api.Edit{Kind: api.EDropTable, ID: n})
	}
	l = append(l, api.Edit{Kind: api.ENext}, api.Edit{Kind: api.ENext, N: api.MaxStamp + 1}, api.Edit{Kind: api.ESeq, N: api.MaxSeq + 1}, api.Edit{Kind: api.ESeal}, api.Edit{Kind: api.ESeal, ID: api.MaxStamp + 1}, api.Edit{Kind: api.ESeal, ID: 1, N: api.MaxSeq + 1},
		api.Edit{Kind: api.EDropLog}, api.Edit{Kind: api.EDropTable}, api.Edit{Kind: api.EDropLog, ID: api.MaxStamp + 1}, api.Edit{Kind: api.EDropTable, ID: api.MaxStamp + 1})
	for _, p := range badPlaces() {
		l = append(l, api.Edit{Kind: api.EAddLog, Place: p})
	}
	for _, x := range badTables() {
		l = append(l, api.Edit{Kind: api.EAddTable, Table: x})
	}
	for _, x := range edits() { // what the kind does not name
		for i := range 12 {
			y := x
			more := []func(){func() { y.ID++ }, func() { y.N++ }, func() { y.Place.ID++ }, func() { y.Place.Epoch-- }, func() { y.Place.Pairs = []api.Pair{{A: 1, B: 2}} }, func() { y.Table.Place.ID++ }, func() { y.Table.Size++ }, func() { y.Table.Level++ }, func() { y.Table.Count++ }, func() { y.Table.Low = "x" }, func() { y.Table.High = "x" }, func() { y.Table.Top++ }}
			named := map[api.EditKind][]int{api.ENext: {1}, api.ESeq: {1}, api.EAddLog: {2, 3, 4}, api.ESeal: {0, 1}, api.EDropLog: {0}, api.EDropTable: {0}, api.EAddTable: {5, 6, 7, 8, 9, 10, 11}}
			if !slices.Contains(named[x.Kind], i) {
				more[i]()
				l = append(l, y)
			}
		}
	}
	return l
}

// applied tells whether edits, done to good, make what change makes.
func applied(t *testing.T, do func(v *api.Version), l ...api.Edit) {
	t.Helper()
	got, n, e := edit.Apply(good(), l...)
	if e != api.OK || n != 0 || !edit.Same(got, change(do)) {
		t.Error(l, got, n, e)
	}
}

func TestP15_1Apply(t *testing.T) {
	applied(t, func(*api.Version) {})
	applied(t, func(v *api.Version) { v.Next = 21 }, api.Edit{Kind: api.ENext, N: 21})
	applied(t, func(v *api.Version) {}, api.Edit{Kind: api.ENext, N: 20})
	applied(t, func(v *api.Version) { v.Seq = 10 }, api.Edit{Kind: api.ESeq, N: 9}, api.Edit{Kind: api.ESeq, N: 10})
	applied(t, func(v *api.Version) { v.Logs[2].Sealed = 6 }, api.Edit{Kind: api.ESeal, ID: 9, N: 6})
	applied(t, func(v *api.Version) { v.Logs = v.Logs[1:] }, api.Edit{Kind: api.EDropLog, ID: 2})
	applied(t, func(v *api.Version) { v.Logs = nil }, api.Edit{Kind: api.EDropLog, ID: 9}, api.Edit{Kind: api.EDropLog, ID: 2}, api.Edit{Kind: api.EDropLog, ID: 5})
	applied(t, func(v *api.Version) { v.Tables = append(v.Tables[:2:2], v.Tables[3:]...) }, api.Edit{Kind: api.EDropTable, ID: 7})
	applied(t, func(v *api.Version) {
		v.Logs[2].Sealed = 1
		v.Logs = append(v.Logs, api.Log{Place: place(11, 30, 1), Sealed: -1})
	}, api.Edit{Kind: api.EAddLog, Place: place(11, 30, 1)}, api.Edit{Kind: api.ESeal, ID: 9, N: 1})
	applied(t, func(v *api.Version) { v.Logs = slices.Insert(v.Logs, 0, api.Log{Place: place(1, 30, 1), Sealed: 7}) }, api.Edit{Kind: api.EAddLog, Place: place(1, 30, 1)}, api.Edit{Kind: api.ESeal, ID: 1, N: 7})
	applied(t, func(v *api.Version) { v.Tables = slices.Insert(v.Tables, 4, tab(10, 30, 3, "c", "d")) }, api.Edit{Kind: api.EAddTable, Table: tab(10, 30, 3, "c", "d")})
	applied(t, func(v *api.Version) { v.Tables = slices.Insert(v.Tables, 0, tab(1, 30, 0, "c", "d")) }, api.Edit{Kind: api.EAddTable, Table: tab(1, 30, 0, "c", "d")})
	applied(t, func(v *api.Version) { v.Tables[4] = tab(12, 18, 1, "e", "f") }, api.Edit{Kind: api.EDropTable, ID: 12}, api.Edit{Kind: api.EAddTable, Table: tab(12, 18, 1, "e", "f")})
}

// refused tells whether edits, done to good, are refused at a number.
func refused(t *testing.T, n int, l ...api.Edit) {
	t.Helper()
	got, k, e := edit.Apply(good(), l...)
	if e != api.ErrEdit || k != n || !reflect.DeepEqual(got, api.Version{}) {
		t.Error(l, got, k, e)
	}
}

func TestP15_1ApplyRefused(t *testing.T) {
	fine := api.Edit{Kind: api.ENext, N: 30}
	for _, x := range badEdits() {
		refused(t, 0, x)
		refused(t, 2, fine, fine, x, fine)
	}
	for _, x := range []api.Edit{
		{Kind: api.ENext, N: 19}, {Kind: api.ESeq, N: 8}, {Kind: api.EAddLog, Place: place(5, 30, 1)}, {Kind: api.EAddTable, Table: tab(7, 30, 0, "a", "a")},
		{Kind: api.ESeal, ID: 2, N: 4}, {Kind: api.ESeal, ID: 5}, {Kind: api.ESeal, ID: 3, N: 1}, {Kind: api.ESeal, ID: 99}, {Kind: api.EDropLog, ID: 3}, {Kind: api.EDropLog, ID: 99}, {Kind: api.EDropTable, ID: 2}, {Kind: api.EDropTable, ID: 99},
	} {
		refused(t, 0, x)
		refused(t, 1, fine, x, fine)
	}
	refused(t, 2, fine, api.Edit{Kind: api.ENext, N: 31}, fine)
	refused(t, 1, api.Edit{Kind: api.EDropLog, ID: 9}, api.Edit{Kind: api.EDropLog, ID: 9})
	refused(t, 1, api.Edit{Kind: api.ESeal, ID: 9}, api.Edit{Kind: api.ESeal, ID: 9})
	for _, x := range []api.Edit{
		{Kind: api.EAddLog, Place: place(11, 30, 1)}, {Kind: api.EAddLog, Place: place(12, 30, 1)}, {Kind: api.EAddLog, Place: place(1, 30, 1)}, {Kind: api.EAddLog, Place: place(40, 40, 1)},
		{Kind: api.EAddTable, Table: tab(9, 30, 0, "a", "a")}, {Kind: api.EAddTable, Table: tab(10, 20, 0, "a", "a")}, {Kind: api.EAddTable, Table: tab(10, 30, 1, "b", "b")}, {Kind: api.EAddTable, Table: tab(30, 30, 0, "b", "b")},
	} {
		if x.Place.ID == 40 || x.Table.Place.ID == 30 {
			refused(t, 3, api.Edit{Kind: api.ENext, N: 20}, x, api.Edit{Kind: api.ENext, N: 25})
			continue
		}
		refused(t, 1, x)
		refused(t, 2, x, fine)
	}
}

// slowBytes is the chapter's words, of any edits.
func slowBytes(l []api.Edit) []byte {
	b := binary.AppendUvarint(nil, uint64(len(l)))
	nums := func(l ...int) {
		for _, n := range l {
			b = binary.AppendUvarint(b, uint64(n))
		}
	}
	at := func(p api.Place) {
		nums(p.ID, p.Epoch, len(p.Pairs))
		for _, x := range p.Pairs {
			nums(x.A, x.B)
		}
	}
	for _, x := range l {
		b = append(b, byte(x.Kind))
		switch x.Kind {
		case api.ENext, api.ESeq:
			nums(x.N)
		case api.ESeal:
			nums(x.ID, x.N)
		case api.EDropLog, api.EDropTable:
			nums(x.ID)
		case api.EAddLog:
			at(x.Place)
		case api.EAddTable:
			at(x.Table.Place)
			nums(x.Table.Size, x.Table.Level, x.Table.Count, len(x.Table.Low))
			b = append(b, x.Table.Low...)
			nums(len(x.Table.High))
			b = append(b, x.Table.High...)
			nums(x.Table.Top)
		}
	}
	return b
}

// none tells whether bytes are those of no edits.
func none(b []byte) bool {
	l, e := edit.Read(b)
	return e == api.ErrEdit && len(l) == 0
}

func TestP15_2Bytes(t *testing.T) {
	b, e := edit.Bytes(api.Edit{Kind: api.ENext, N: 3}, api.Edit{Kind: api.EAddLog, Place: place(1, 0, 1)})
	if e != api.OK || !bytes.Equal(b, []byte{2, 1, 3, 3, 1, 1, 1, 0, 1}) {
		t.Error(b, e)
	}
	if b, e := edit.Bytes(); e != api.OK || !bytes.Equal(b, []byte{0}) {
		t.Error(b, e)
	}
	if b, e := edit.Bytes(edits()...); e != api.OK || !bytes.Equal(b, slowBytes(edits())) {
		t.Error(b, e)
	}
	many := make([]api.Edit, 257)
	if b, e := edit.Bytes(many...); e != api.ErrMany || len(b) > 0 {
		t.Error(e)
	}
	if b, e := edit.Bytes(many[:256]...); e != api.ErrEdit || len(b) > 0 {
		t.Error(e)
	}
	for i := range many {
		many[i] = api.Edit{Kind: api.ESeq, N: i}
	}
	if b, e := edit.Bytes(many[:256]...); e != api.OK || !bytes.Equal(b, slowBytes(many[:256])) {
		t.Error(e)
	}
	if l, e := edit.Read(slowBytes(many[:256])); e != api.OK || len(l) != 256 {
		t.Error(e)
	}
	if !none(slowBytes(many)) {
		t.Error("more than 256")
	}
	for _, x := range badEdits() {
		if b, e := edit.Bytes(edits()[0], x); e != api.ErrEdit || len(b) > 0 {
			t.Error(x, e)
		}
	}
}

func TestP15_2Read(t *testing.T) {
	for _, x := range edits() {
		b := slowBytes([]api.Edit{x, x})
		if l, e := edit.Read(b); e != api.OK || len(l) != 2 || !reflect.DeepEqual(l, []api.Edit{x, x}) {
			t.Error(l, e)
		}
		for i := range b {
			if !none(b[:i]) {
				t.Error("it ends within", x, i)
			}
		}
		if !none(append(bytes.Clone(b), 0)) || !none(append([]byte{130, 0}, b[1:]...)) {
			t.Error("other bytes", x)
		}
	}
	for _, x := range badEdits() {
		if b := slowBytes([]api.Edit{x}); x.N >= 0 && x.ID >= 0 && len(x.Place.Pairs) < 64 && !none(b) {
			if l, _ := edit.Read(b); !bytes.Equal(slowBytes(l), b) || len(l) != 1 || reflect.DeepEqual(l[0], x) {
				t.Error(x, l)
			}
		}
	}
	for _, b := range [][]byte{nil, {1}, {1, 0}, {1, 0, 1}, {1, 8, 1}, {1, 255, 1}, {1, 1, 0}, {1, 1, 129, 0}, {1, 6, 0}, {1, 3, 1, 1, 0}, {1, 3, 1, 1, 1, 0, 0}, {1, 3, 1, 1, 200, 200, 3, 0, 1}, {255, 255, 255, 255, 255, 255, 255, 255, 255, 1}, {128}} {
		if !none(b) {
			t.Error(b)
		}
	}
	if !none(append([]byte{1, 2}, binary.AppendUvarint(nil, math.MaxUint64)...)) || !none(append([]byte{1, 2}, binary.AppendUvarint(nil, 1<<40+1)...)) {
		t.Error("too great a number")
	}
}

func TestP15_3MakePlacesSame(t *testing.T) {
	want := []api.Edit{{Kind: api.ENext, N: 4}, {Kind: api.ESeq, N: 5}, {Kind: api.EAddLog, Place: place(1, 0, 1)}, {Kind: api.ESeal, ID: 1, N: 2}, {Kind: api.EAddLog, Place: place(3, 2, 1)}, {Kind: api.EAddTable, Table: tab(2, 8, 1, "a", "b")}}
	v := api.Version{Next: 4, Seq: 5, Logs: []api.Log{{Place: place(1, 0, 1), Sealed: 2}, {Place: place(3, 2, 1), Sealed: -1}}, Tables: []api.Table{tab(2, 8, 1, "a", "b")}}
	if got := edit.Make(v); !reflect.DeepEqual(got, want) {
		t.Error(got)
	}
	for _, v := range bads() {
		if len(edit.Make(v)) > 0 {
			t.Error(v)
		}
		var places []api.Place
		for _, x := range v.Logs {
			places = append(places, x.Place)
		}
		for _, x := range v.Tables {
			places = append(places, x.Place)
		}
		if got := edit.Places(v); !slices.EqualFunc(got, places, func(a, b api.Place) bool {
			return a.ID == b.ID && a.Epoch == b.Epoch && slices.Equal(a.Pairs, b.Pairs)
		}) {
			t.Error(got, places)
		}
		if !edit.Same(v, v) {
			t.Error("any version is as it is")
		}
	}
}

func TestP15_3Same(t *testing.T) {
	for i, do := range []func(v *api.Version){
		func(v *api.Version) { v.Next++ }, func(v *api.Version) { v.Seq++ }, func(v *api.Version) { v.Logs = v.Logs[1:] }, func(v *api.Version) { v.Tables = v.Tables[:5] }, func(v *api.Version) { v.Logs[1].Sealed++ },
		func(v *api.Version) { v.Logs[2].Place.ID++ }, func(v *api.Version) { v.Logs[2].Place.Epoch++ }, func(v *api.Version) { v.Logs[0].Place.Pairs[1].A++ }, func(v *api.Version) { v.Logs[0].Place.Pairs[1].B++ }, func(v *api.Version) { v.Logs[0].Place.Pairs = v.Logs[0].Place.Pairs[:1] },
		func(v *api.Version) { v.Tables[3].Place.ID++ }, func(v *api.Version) { v.Tables[3].Place.Epoch++ }, func(v *api.Version) { v.Tables[3].Place.Pairs[0].B++ }, func(v *api.Version) { v.Tables[3].Size++ }, func(v *api.Version) { v.Tables[3].Level++ },
		func(v *api.Version) { v.Tables[3].Count++ }, func(v *api.Version) { v.Tables[3].Low = "x" }, func(v *api.Version) { v.Tables[3].High = "x" }, func(v *api.Version) { v.Tables[3].Top++ }, func(v *api.Version) { v.Tables[0], v.Tables[1] = v.Tables[1], v.Tables[0] },
	} {
		if edit.Same(good(), change(do)) || edit.Same(change(do), good()) || !edit.Same(change(do), change(do)) {
			t.Error(i)
		}
	}
	a, b := api.Version{Next: 1}, api.Version{Next: 1, Logs: []api.Log{}, Tables: []api.Table{}}
	if !edit.Same(a, b) || !edit.Same(b, a) || edit.Same(api.Version{Logs: []api.Log{{}}}, a) {
		t.Error("nil and empty are alike")
	}
	if !edit.Same(api.Version{Logs: []api.Log{{Place: api.Place{Pairs: []api.Pair{}}}}}, api.Version{Logs: []api.Log{{}}}) {
		t.Error("nil and empty pairs are alike")
	}
}

func TestP15_4Made(t *testing.T) {
	for i, v := range goods() {
		got, n, e := edit.Apply(api.Version{Next: 1}, edit.Make(v)...)
		if e != api.OK || n != 0 || !edit.Same(got, v) {
			t.Error(i, n, e)
		}
	}
}

// someEdits are edits by chance that mostly can be done to good.
func someEdits(r *rand.Rand) []api.Edit {
	var l []api.Edit
	for range r.IntN(6) {
		id := 1 + r.IntN(24)
		l = append(l, []api.Edit{
			{Kind: api.ENext, N: 20 + r.IntN(4)}, {Kind: api.ESeq, N: 9 + r.IntN(3)}, {Kind: api.EAddLog, Place: place(id, 30+2*r.IntN(30), 1)}, {Kind: api.ESeal, ID: id, N: r.IntN(9)}, {Kind: api.EDropLog, ID: id}, {Kind: api.EDropTable, ID: id},
			{Kind: api.EAddTable, Table: tab(id, 30+2*r.IntN(30), r.IntN(4), string([]byte{byte('a' + r.IntN(9))}), string([]byte{byte('h' + r.IntN(9))}))},
		}[r.IntN(7)])
	}
	return l
}

func TestP15_5ThereAndBack(t *testing.T) {
	r := rand.New(rand.NewPCG(15, 5))
	for range 20000 {
		l := someEdits(r)
		b, e := edit.Bytes(l...)
		if e != api.OK || !bytes.Equal(b, slowBytes(l)) {
			continue // a table whose High is below its Low
		}
		if got, e := edit.Read(b); e != api.OK || !slices.EqualFunc(got, l, func(a, b api.Edit) bool { return reflect.DeepEqual(a, b) }) {
			t.Fatal(l, got, e)
		}
		b[r.IntN(len(b))] = byte(r.Uint32())
		if got, e := edit.Read(b); e == api.OK && !bytes.Equal(slowBytes(got), b) {
			t.Fatal(b, got)
		}
	}
}

func TestP15_6Parts(t *testing.T) {
	r := rand.New(rand.NewPCG(15, 6))
	both := 0
	for range 20000 {
		a, b := someEdits(r), someEdits(r)
		mid, _, e := edit.Apply(good(), a...)
		if e != api.OK {
			continue
		}
		both++
		one, n, e1 := edit.Apply(mid, b...)
		two, m, e2 := edit.Apply(good(), append(slices.Clone(a), b...)...)
		if e1 != e2 || !edit.Same(one, two) || e1 != api.OK && n+len(a) != m {
			t.Fatal(a, b, n, m, e1, e2)
		}
	}
	if both < 1000 {
		t.Error(both)
	}
}

func TestP15_7Own(t *testing.T) {
	v := good()
	x := api.Edit{Kind: api.EAddTable, Table: tab(10, 40, 0, "a", "b")}
	y := api.Edit{Kind: api.EAddLog, Place: place(1, 50, 1)}
	got, _, _ := edit.Apply(v, x, y, api.Edit{Kind: api.ESeal, ID: 1}, api.Edit{Kind: api.EDropLog, ID: 5}, api.Edit{Kind: api.EDropTable, ID: 4})
	made, places := edit.Make(v), edit.Places(v)
	want, _, _ := edit.Apply(good(), edit.Make(got)[:0]...)
	if !edit.Same(v, good()) || !edit.Same(want, good()) {
		t.Fatal("an argument is changed")
	}
	v.Logs[0].Place.Pairs[0].A, v.Tables[0].Place.Pairs[0].A, x.Table.Place.Pairs[0].A, y.Place.Pairs[0].A = 99, 99, 99, 99
	if made[2].Place.Pairs[0].A != 0 || places[0].Pairs[0].A != 0 || places[3].Pairs[0].A != 10 || got.Logs[1].Place.Pairs[0].A != 0 || got.Logs[0].Place.Pairs[0].A != 50 || got.Tables[0].Place.Pairs[0].A != 10 {
		t.Error("an answer shares memory with an argument")
	}
	for _, q := range got.Tables {
		if q.Place.ID == 10 && q.Place.Pairs[0].A != 40 {
			t.Error("an answer shares memory with an edit")
		}
	}
	b, _ := edit.Bytes(edits()...)
	l, _ := edit.Read(b)
	m, _ := edit.Read(b)
	l[4].Place.Pairs[0].A = 77
	if !reflect.DeepEqual(m, edits()) {
		t.Error("two answers share memory")
	}
}
