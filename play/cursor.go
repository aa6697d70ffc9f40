package play

import (
	"slices"
	"strconv"
	"strings"

	"lien/api"
)

// cursor moves over a line's words; where a word is wrong it ends the walk by a panic.
type cursor struct {
	words []string
}

// settings takes a whole line: a disk's size and a store's settings.
func (c *cursor) settings(s *api.Script) {
	must(c.next() == begin)
	take := c.num
	s.Sectors = take()
	s.Conf.Mem = take()
	s.Conf.LogPairs = take()
	s.Conf.ManPairs = take()
	s.Conf.TableBytes = take()
	must(c.atEnd())
}

// deed takes a whole line: a deed.
func (c *cursor) deed() api.Deed {
	name := c.next()
	kind := slices.Index(deedWords(), name)
	must(kind > 0)
	d := api.Deed{Kind: api.DeedKind(kind)}
	take := c.num
	for _, field := range fieldsOf(name) {
		switch field {
		case fieldA:
			d.A = take()
		case fieldB:
			d.B = take()
		case fieldC:
			d.C = take()
		case fieldText:
			d.Text = c.text()
		case fieldFates:
			for !c.atEnd() {
				keep := take()
				d.Fates = append(d.Fates, api.Fate{Keep: keep, Cut: take()})
			}
		}
	}
	must(c.atEnd())
	return d
}

// atEnd tells whether no word is left.
func (c *cursor) atEnd() bool {
	return len(c.words) == 0
}

// next takes a word.
func (c *cursor) next() string {
	must(!c.atEnd())
	w := c.words[0]
	c.words = c.words[1:]
	return w
}

// num takes a number.
func (c *cursor) num() int {
	w := c.next()
	n, err := strconv.Atoi(w)
	must(err == nil && near(n) && num(n) == w)
	return n
}

// text takes a text.
func (c *cursor) text() string {
	w, ok := strings.CutPrefix(c.next(), quote)
	must(ok && len(w)%2 == 0)
	b := make([]byte, 0, len(w)/2)
	for i := 0; i < len(w); i += 2 {
		high, low := strings.IndexByte(digits, w[i]), strings.IndexByte(digits, w[i+1])
		must(high >= 0 && low >= 0)
		b = append(b, byte(high<<4|low))
	}
	return string(b)
}

// must ends the walk, where a line is none.
func must(holds bool) {
	if !holds {
		panic(api.ErrScript)
	}
}
