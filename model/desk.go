package model

import (
	"bytes"
	"maps"
	"slices"
	"strings"

	"lien/api"
	"lien/code"
	"lien/outbox"
	"lien/rights"
)

// fault ends a request by a panic: an error of the view, or of a row.
type fault struct {
	e api.Errno
}

// faultOf is the error of a panic that is a fault.
func faultOf(x any) api.Errno {
	f, ok := x.(fault)
	if !ok {
		panic(x) // a view's own
	}
	return f.e
}

// row is what a row was, if there was one, and what it becomes, if there is to be one.
type row struct {
	had, has bool
	was, is  []byte
}

// desk is the rows that a request reads and changes.
type desk struct {
	view View
	rows map[string]row
}

// newDesk is a desk of a view, on which no row lies.
func newDesk(v View) *desk {
	return &desk{view: v, rows: map[string]row{}}
}

// lay lays a row of the view on the desk, as it is.
func (d *desk) lay(key string, b []byte) {
	d.rows[key] = row{had: true, has: true, was: append([]byte(nil), b...), is: append([]byte(nil), b...)}
}

// put makes a row another one.
func (d *desk) put(key string, b []byte) {
	r := d.rows[key]
	r.has, r.is = true, b
	d.rows[key] = r
}

// drop makes a row go.
func (d *desk) drop(key string) {
	r := d.rows[key]
	r.has, r.is = false, nil
	d.rows[key] = r
}

// writes are the rows that are other ones, by their keys.
func (d *desk) writes() []api.Write {
	var l []api.Write
	for _, key := range slices.Sorted(maps.Keys(d.rows)) {
		r := d.rows[key]
		switch {
		case r.had && !r.has:
			l = append(l, api.Write{Key: key, Del: true})
		case r.has && (!r.had || !bytes.Equal(r.is, r.was)):
			l = append(l, api.Write{Key: key, Val: r.is})
		}
	}
	return l
}

// scan are the rows whose keys begin so, by their keys.
func (d *desk) scan(begin string) []api.KV {
	l, e := rowsFrom(d.view, begin)
	if e != api.OK {
		panic(fault{e})
	}
	for _, x := range l {
		d.lay(x.Key, x.Val)
	}
	return l
}

// account is a name's.
func (d *desk) account(name string) api.Account {
	a, there := readAt(d, told(outbox.AccountKey(name)), rights.ReadAccount)
	if !there {
		return rights.Fresh()
	}
	return a
}

// setAccount makes a name's account another one; one that is as fresh has no row.
func (d *desk) setAccount(name string, a api.Account) {
	key := told(outbox.AccountKey(name))
	if a == rights.Fresh() {
		d.drop(key)
		return
	}
	d.put(key, told(rights.AccountBytes(a)))
}

// hold is a name's hold of a number, if there is one.
func (d *desk) hold(name string, id int) (api.Hold, bool) {
	return readAt(d, told(outbox.HoldKey(name, id)), rights.ReadHold)
}

// clock is the clock.
func (d *desk) clock() int {
	now, _ := readAt(d, outbox.ClockKey(), outbox.ReadNum)
	return now
}

// readAt is what a row says, if there is one.
func readAt[T any](d *desk, key string, read func(b []byte) (T, api.Errno)) (T, bool) {
	b, there, e := d.view.Get(key)
	if e != api.OK {
		panic(fault{e})
	}
	if !there {
		var none T
		return none, false
	}
	d.lay(key, b)
	return readRow(b, read), true
}

// readRow is what a row's bytes say.
func readRow[T any](b []byte, read func(b []byte) (T, api.Errno)) T {
	x, e := read(b)
	if e != api.OK {
		panic(fault{api.ErrBox})
	}
	return x
}

// told is a key or bytes, of which no error is told any more: what a request has is as said.
func told[T any](x T, e api.Errno) T {
	if e != api.OK {
		panic(fault{e})
	}
	return x
}

// rowsFrom are the rows of a view whose keys begin so, by their keys.
func rowsFrom(v View, begin string) ([]api.KV, api.Errno) {
	l, e := v.Scan(begin, code.Behind(begin))
	if e != api.OK {
		return nil, e
	}
	return slices.DeleteFunc(slices.Clone(l), func(x api.KV) bool { return !strings.HasPrefix(x.Key, begin) }), api.OK
}
