package reply

import (
	"strings"

	"posthorn/api"
	"posthorn/octet"
	"posthorn/queue"
)

// Reader reads replies out of bytes that come in pieces.
type Reader struct {
	waiting *queue.Ring[api.Reply] // whole ones that were not told; nil of a reader that New did not make
	err     api.Errno
	now     place
	held    []byte // what came behind the last whole reply
}

// New makes one.
func New() *Reader {
	waiting, _ := queue.New[api.Reply](api.MaxRing)
	return &Reader{waiting: waiting}
}

// there tells whether a reader is one that this package made.
func (r *Reader) there() bool { return r != nil && r.waiting != nil }

// Feed takes bytes.
func (r *Reader) Feed(b []byte) api.Errno {
	if e := r.Err(); e != api.OK {
		return e
	}
	// Asked ahead of the first byte: where there is no room for all that becomes whole, none is to be taken.
	if r.now.wholeWith(b) > r.waiting.Room() {
		return api.ErrFull
	}
	for _, c := range b {
		shown := r.now.take(c)
		if shown == wrong {
			r.err, r.held = api.ErrReply, nil
			return r.err
		}
		r.held = append(r.held, c)
		if shown == whole {
			r.waiting.Push(replyOf(string(r.held)))
			r.held = r.held[:0]
		}
	}
	return api.OK
}

// replyOf is the reply that right rows say, from its first one to its last one with their line ends.
func replyOf(rows string) api.Reply {
	lines := strings.Split(strings.TrimSuffix(rows, lineEnd), lineEnd)
	for i, row := range lines {
		// A code alone has no mark behind it.
		lines[i] = row[min(codeLength+1, len(row)):]
	}
	code, _ := octet.Number(rows[:codeLength], 999)
	r := api.Reply{Code: int(code), Lines: lines}
	r.Status = commonStatus(r.Code, lines)
	if r.Status != none() {
		for i, text := range lines {
			lines[i] = behindStatus(text)
		}
	}
	return r
}

// Next tells the first reply that is whole and was not told yet.
func (r *Reader) Next() (api.Reply, bool) {
	if !r.there() {
		return api.Reply{}, false
	}
	return r.waiting.Pop()
}

// Err is what is wrong with the bytes.
func (r *Reader) Err() api.Errno {
	if !r.there() {
		return api.ErrNil
	}
	return r.err
}

// Held is how many bytes came behind the last whole reply.
func (r *Reader) Held() int {
	if !r.there() {
		return 0
	}
	return len(r.held)
}
