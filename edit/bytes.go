package edit

import (
	"bytes"

	"lien/api"
	"lien/code"
)

const (
	maxEdits = 256 // how many edits have bytes together
	numMax   = 10  // how many bytes a number has at most
)

// Bytes are edits'.
func Bytes(l ...api.Edit) ([]byte, api.Errno) {
	if len(l) > maxEdits {
		return nil, api.ErrMany
	}
	b := code.Num(uint64(len(l)))
	for _, x := range l {
		if !mayBe(x) {
			return nil, api.ErrEdit
		}
		b = put(b, x)
	}
	return b, api.OK
}

// Read are the edits of bytes.
func Read(b []byte) ([]api.Edit, api.Errno) {
	l, ok := taken(b)
	if !ok {
		return nil, api.ErrEdit
	}
	// What may be taken may still be no edits that may be, or stand there in other bytes than theirs.
	again, e := Bytes(l...)
	if e != api.OK || !bytes.Equal(again, b) {
		return nil, api.ErrEdit
	}
	return l, api.OK
}

// put puts an edit's bytes behind others.
func put(b []byte, x api.Edit) []byte {
	b = append(b, byte(x.Kind))
	switch x.Kind {
	case api.ESeal:
		b = putNums(b, x.ID)
		fallthrough
	case api.ENext, api.ESeq:
		return putNums(b, x.N)
	case api.EAddLog:
		return putPlace(b, x.Place)
	case api.EAddTable:
		t := x.Table
		b = putNums(putPlace(b, t.Place), t.Size, t.Level, t.Count)
		b = append(b, code.Text(t.Low)...)
		b = append(b, code.Text(t.High)...)
		return putNums(b, t.Top)
	}
	return putNums(b, x.ID)
}

// putPlace puts a place's bytes behind others.
func putPlace(b []byte, p api.Place) []byte {
	b = putNums(b, p.ID, p.Epoch, len(p.Pairs))
	for _, pair := range p.Pairs {
		b = putNums(b, pair.A, pair.B)
	}
	return b
}

// putNums puts numbers' bytes behind others.
func putNums(b []byte, l ...int) []byte {
	for _, n := range l {
		b = append(b, code.Num(uint64(n))...)
	}
	return b
}

// taken are the edits that bytes tell; false: they tell none.
func taken(b []byte) ([]api.Edit, bool) {
	at, ok := 0, true
	num := func() int {
		window := b[at:min(len(b), at+numMax)]
		n, rest, is := code.TakeNum(window)
		at += len(window) - len(rest)
		// No number of an edit is greater: so what is taken has the same value as an int.
		ok = ok && is && n <= api.MaxSeq
		if !ok {
			return 0
		}
		return int(n)
	}
	text := func() string {
		window := b[at:min(len(b), at+numMax+api.MaxKey)]
		s, rest, is := code.TakeText(window, api.MaxKey)
		at += len(window) - len(rest)
		ok = ok && is
		return s
	}
	var l []api.Edit
	for range min(num(), maxEdits+1) {
		if !ok || at == len(b) {
			return nil, false
		}
		x := api.Edit{Kind: api.EditKind(b[at])}
		at++
		take(&x, num, text)
		l = append(l, x)
	}
	return l, ok && at == len(b)
}

// take takes what an edit's kind names.
func take(x *api.Edit, num func() int, text func() string) {
	switch x.Kind {
	case api.ESeal:
		x.ID = num()
		fallthrough
	case api.ENext, api.ESeq:
		x.N = num()
	case api.EAddLog:
		x.Place = takePlace(num)
	case api.EAddTable:
		t := &x.Table
		t.Place = takePlace(num)
		t.Size, t.Level, t.Count = num(), num(), num()
		t.Low, t.High = text(), text()
		t.Top = num()
	default:
		x.ID = num()
	}
}

// takePlace takes a place.
func takePlace(num func() int) api.Place {
	p := api.Place{ID: num(), Epoch: num()}
	for range min(num(), api.MaxPairs+1) {
		a := num()
		p.Pairs = append(p.Pairs, api.Pair{A: a, B: num()})
	}
	return p
}
