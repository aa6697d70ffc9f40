package play

import (
	"lien/api"
	"lien/world"
)

// Run: its report.
func Run(s api.Script) string {
	var p page
	w, e := world.New(s)
	p.line(num(int(e)))
	if e != api.OK {
		return string(p.b)
	}
	told := 0
	for _, d := range s.Deeds {
		p.line(num(int(w.Do(d))))
		all := w.Told()
		for _, a := range all[told:] {
			r := a.Reply
			p.line("told", num(a.I), num(int(r.E)), num(r.N), num(r.Seq), num(r.Free), num(r.Held))
		}
		told = len(all)
	}
	p.line("end", num(w.Seq()), num(w.Durable()), num(w.Waiting()), num(len(w.Mails())))
	totals, e := w.Totals()
	if e != api.OK {
		p.line("none", num(int(e)))
	}
	for _, t := range totals {
		p.line("total", text(t.Key), num(t.Free), num(t.Held), num(t.Out))
	}
	return string(p.b)
}
