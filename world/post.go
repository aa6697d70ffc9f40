package world

import (
	"lien/api"
	"lien/net"
	"lien/wire"
)

// post is a world's net, and how messages get there and come from there.
type post struct {
	net *net.Net
}

// send sends a message on its way; what the net refuses is lost.
func (p *post) send(from, to int, m api.Message) {
	if b, e := wire.MsgBytes(m); e == api.OK {
		p.net.Send(api.Mail{From: from, To: to, Text: string(b)})
	}
}

// all are all mails on their way, in order.
func (p *post) all() []api.Mail {
	var l []api.Mail
	for i := range p.net.Len() {
		if m, e := p.net.At(i); e == api.OK {
			l = append(l, m)
		}
	}
	return l
}
