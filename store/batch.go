package store

import (
	"bytes"

	"lien/api"
	"lien/code"
)

// isBatch tells whether a batch may be.
func isBatch(l []api.Write) bool {
	if len(l) < 1 || len(l) > api.MaxBatch {
		return false
	}
	seen := map[string]int{}
	for _, w := range l {
		if len(w.Key) < 1 || len(w.Key) > api.MaxKey || seen[w.Key] > 0 || len(w.Val) > api.MaxVal || w.Del && len(w.Val) > 0 {
			return false
		}
		seen[w.Key]++
	}
	return true
}

// record is a batch's bytes.
func record(n int, l []api.Write) []byte {
	b := append(code.Num(uint64(n)), code.Num(uint64(len(l)))...)
	for _, w := range l {
		b = append(b, code.Text(w.Key)...)
		if w.Del {
			b = append(b, 1)
			continue
		}
		b = append(b, 0)
		b = append(b, code.Text(string(w.Val))...)
	}
	return b
}

// readRecord is the number and the batch whose bytes these are; false: they are none's.
func readRecord(b []byte) (int, []api.Write, bool) {
	n, rest, ok := code.TakeNum(b)
	many, rest, ok2 := code.TakeNum(rest)
	if !ok || !ok2 || n > api.MaxSeq || many > api.MaxBatch {
		return 0, nil, false
	}
	var l []api.Write
	for range many {
		var w api.Write
		if w.Key, rest, ok = code.TakeText(rest, api.MaxKey); !ok || len(rest) == 0 {
			return 0, nil, false
		}
		w.Del = rest[0] == 1
		rest = rest[1:]
		if !w.Del {
			var val string
			if val, rest, ok = code.TakeText(rest, api.MaxVal); !ok {
				return 0, nil, false
			}
			w.Val = []byte(val)
		}
		l = append(l, w)
	}
	// A byte that tells neither, or what stands behind, is found out by its being written again.
	return int(n), l, isBatch(l) && bytes.Equal(record(int(n), l), b)
}
