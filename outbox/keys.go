package outbox

import (
	"lien/api"
	"lien/code"
)

// The kinds of keys.
const (
	account  = "a"
	hold     = "h"
	transfer = "o"
	next     = "n"
	inbox    = "i"
	clock    = "t"
)

const (
	wideNum  = 8 // how many bytes of a key a number has
	widePeer = 1 // and a peer
)

// AccountKey is that of a name's account.
func AccountKey(name string) (string, api.Errno) {
	if !Name(name) {
		return "", api.ErrArg
	}
	return code.Key(account, name)
}

// HoldKey is that of a hold.
func HoldKey(name string, id int) (string, api.Errno) {
	if !Name(name) || !within(id, 0, api.MaxTime) {
		return "", api.ErrArg
	}
	return code.Key(hold, name, number(id))
}

// HoldsKey is how the keys of all holds of a name begin.
func HoldsKey(name string) (string, api.Errno) {
	if !Name(name) {
		return "", api.ErrArg
	}
	return code.Key(hold, name)
}

// OutKey is that of a transfer to a peer.
func OutKey(peer, seq int) (string, api.Errno) {
	if !isPeer(peer) || !within(seq, 0, api.MaxSeq) {
		return "", api.ErrArg
	}
	return code.Key(transfer, peerText(peer), number(seq))
}

// OutsKey is how the keys of all transfers to a peer begin.
func OutsKey(peer int) (string, api.Errno) {
	return peerKey(transfer, peer)
}

// NextKey is that of the next transfer's number.
func NextKey(peer int) (string, api.Errno) {
	return peerKey(next, peer)
}

// InboxKey is that of a peer's inbox.
func InboxKey(peer int) (string, api.Errno) {
	return peerKey(inbox, peer)
}

// ClockKey is that of the clock.
func ClockKey() string {
	key, _ := code.Key(clock)
	return key
}

// Split tells what a key is of: its kind, a name or a peer's byte, a number.
func Split(key string) (string, string, int, api.Errno) {
	parts, e := code.Parts(key)
	if e != api.OK || len(parts) == 0 {
		return "", "", 0, api.ErrBox
	}
	kind, rest := parts[0], parts[1:]
	of, n, ok := "", 0, true
	switch kind {
	case hold, transfer:
		if len(rest) != 2 {
			return "", "", 0, api.ErrBox
		}
		// Both kinds' numbers have the same bound.
		n, ok = readNumber(rest[1])
		rest = rest[:1]
		fallthrough
	case account, next, inbox:
		if len(rest) != 1 || !mayBeOf(kind, rest[0]) {
			return "", "", 0, api.ErrBox
		}
		of = rest[0]
	case clock:
		ok = len(rest) == 0
	default:
		ok = false
	}
	if !ok {
		return "", "", 0, api.ErrBox
	}
	return kind, of, n, api.OK
}

// peerKey is a key of a kind, and a peer.
func peerKey(kind string, peer int) (string, api.Errno) {
	if !isPeer(peer) {
		return "", api.ErrArg
	}
	return code.Key(kind, peerText(peer))
}

// isPeer tells whether there is a peer of that number.
func isPeer(peer int) bool {
	return within(peer, 1, api.MaxPeer)
}

// peerText is a peer in a key.
func peerText(peer int) string {
	return string(code.Fixed(uint64(peer), widePeer))
}

// mayBeOf tells whether a key of a kind may be of that: a name, or a peer's byte.
func mayBeOf(kind, of string) bool {
	if kind == account || kind == hold {
		return Name(of)
	}
	return len(of) == widePeer && isPeer(int(of[0]))
}

// number is a number in a key.
func number(n int) string {
	return string(code.Fixed(uint64(n), wideNum))
}

// readNumber is the number that a part of a key is; false: it is none.
func readNumber(s string) (int, bool) {
	n, rest, ok := code.TakeFixed([]byte(s), wideNum)
	if !ok || len(rest) > 0 || n > api.MaxSeq {
		return 0, false
	}
	return int(n), true
}
