package play

import (
	"strconv"

	"lien/api"
)

const (
	begin  = "lien" // the first line's word
	quote  = "="    // begins a text
	digits = "0123456789abcdef"
)

// The fields of a deed.
const (
	fieldA = iota
	fieldB
	fieldC
	fieldText
	fieldFates
)

// wordOf is the word of a kind of deeds; none: there is no such kind.
func wordOf(k api.DeedKind) string {
	all := deedWords()
	if k < 0 || int(k) >= len(all) {
		return ""
	}
	return all[k]
}

// deedWords are the words of all kinds of deeds, by their numbers.
func deedWords() []string {
	return []string{"", "ask", "sync", "tick", "flush", "compact", "scrub", "resend", "offer", "again", "come", "lose", "twin", "fuse", "crash", "rot"}
}

// fieldsOf are the fields of deeds of a word, in the order in which they are written.
func fieldsOf(word string) []int {
	switch word {
	case "ask":
		return []int{fieldText}
	case "resend", "again", "come", "lose", "twin", "fuse":
		return []int{fieldA}
	case "offer":
		return []int{fieldA, fieldB, fieldText}
	case "crash":
		return []int{fieldFates}
	case "rot":
		return []int{fieldA, fieldB, fieldC}
	}
	return nil
}

// words are a deed's, as they are written.
func words(d api.Deed) []string {
	name := wordOf(d.Kind)
	l := []string{name}
	for _, field := range fieldsOf(name) {
		switch field {
		case fieldA:
			l = append(l, num(d.A))
		case fieldB:
			l = append(l, num(d.B))
		case fieldC:
			l = append(l, num(d.C))
		case fieldText:
			l = append(l, text(d.Text))
		case fieldFates:
			for _, f := range d.Fates {
				l = append(l, num(f.Keep), num(f.Cut))
			}
		}
	}
	return l
}

// num is a number as it is written.
func num(n int) string {
	return strconv.Itoa(n)
}

// text is a text as it is written.
func text(s string) string {
	b := []byte(quote)
	for i := range len(s) {
		b = append(b, digits[s[i]>>4], digits[s[i]&15])
	}
	return string(b)
}

// page is lines of words.
type page struct {
	b []byte
}

// line puts a line behind the others.
func (p *page) line(words ...string) {
	for i, w := range words {
		if i > 0 {
			p.b = append(p.b, ' ')
		}
		p.b = append(p.b, w...)
	}
	p.b = append(p.b, '\n')
}
