package outbox

import (
	"lien/api"
	"lien/code"
)

// NumBytes are a number's.
func NumBytes(n int) ([]byte, api.Errno) {
	if !within(n, 0, api.MaxSeq) {
		return nil, api.ErrBox
	}
	return code.Num(uint64(n)), api.OK
}

// ReadNum is the number of bytes.
func ReadNum(b []byte) (int, api.Errno) {
	n, rest, ok := code.TakeNum(b)
	if !ok || len(rest) > 0 || n > api.MaxSeq {
		return 0, api.ErrBox
	}
	return int(n), api.OK
}

// InboxBytes are an inbox's.
func InboxBytes(b api.Inbox) ([]byte, api.Errno) {
	if e := CheckInbox(b); e != api.OK {
		return nil, e
	}
	return append(code.Num(uint64(b.Floor)), code.Num(b.Mask)...), api.OK
}

// ReadInbox is the inbox of bytes.
func ReadInbox(b []byte) (api.Inbox, api.Errno) {
	floor, rest, ok := code.TakeNum(b)
	mask, rest, ok2 := code.TakeNum(rest)
	if !ok || !ok2 || len(rest) > 0 || floor > api.MaxSeq || mask&1 == 1 {
		return api.Inbox{}, api.ErrBox
	}
	return api.Inbox{Floor: int(floor), Mask: mask}, api.OK
}

// IntentBytes are an intent's.
func IntentBytes(x api.Intent) ([]byte, api.Errno) {
	if !isIntent(x) {
		return nil, api.ErrBox
	}
	return append(code.Text(x.Key), code.Num(uint64(x.N))...), api.OK
}

// ReadIntent is the intent of bytes.
func ReadIntent(b []byte) (api.Intent, api.Errno) {
	key, rest, ok := code.TakeText(b, api.MaxName)
	n, rest, ok2 := code.TakeNum(rest)
	if !ok || !ok2 || len(rest) > 0 || n > api.MaxTotal {
		return api.Intent{}, api.ErrBox
	}
	x := api.Intent{Key: key, N: int(n)}
	if !isIntent(x) {
		return api.Intent{}, api.ErrBox
	}
	return x, api.OK
}

// isIntent tells whether an intent may be.
func isIntent(x api.Intent) bool {
	return Name(x.Key) && within(x.N, 1, api.MaxTotal)
}
