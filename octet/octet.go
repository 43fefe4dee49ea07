// Package octet is layer 1, bytes written and read: see shared/doc/01-octet.md.
package octet

import (
	"strings"

	"petrel/api"
)

// longest is what a length of two bytes can tell.
const longest = 1<<16 - 1

// Writer is what the chapter says.
type Writer struct {
	self *Writer // another one in a copy, which New did not make: both would write into one array
	out  []byte
	err  api.Errno
}

// New is a Writer that has nothing.
func New() *Writer {
	w := &Writer{}
	w.self = w
	return w
}

// Num writes n as a number of so many bytes.
func (w *Writer) Num(n, bytes int) *Writer {
	e := w.fault()
	defer w.keep(&e)
	switch {
	case e != api.OK:
	case !isSize(bytes):
		e = api.ErrArg
	case n < 0 || n>>(8*bytes) != 0:
		e = api.ErrRange
	default:
		w.out = appendNumber(w.out, n, bytes)
	}
	return w
}

// Text writes how many bytes s has, and these.
func (w *Writer) Text(s string) *Writer {
	e := w.fault()
	defer w.keep(&e)
	switch {
	case e != api.OK:
	case len(s) > longest:
		e = api.ErrLong
	default:
		w.out = append(appendNumber(w.out, len(s), 2), s...)
	}
	return w
}

// Raw writes the bytes of s alone.
func (w *Writer) Raw(s string) *Writer {
	if w.fault() == api.OK {
		w.out = append(w.out, s...)
	}
	return w
}

// Done tells all that was written, or the error.
func (w *Writer) Done() (string, api.Errno) {
	if e := w.fault(); e != api.OK {
		return "", e
	}
	return string(w.out), api.OK
}

func (w *Writer) fault() api.Errno {
	if w == nil || w.self != w {
		return api.ErrZero
	}
	return w.err
}

// keep is deferred, and so sees the error with which a call ends, whichever way it went. What was written ahead of an error is never told, and need not stay.
func (w *Writer) keep(e *api.Errno) {
	if w.fault() == api.OK && *e != api.OK {
		w.out, w.err = nil, *e
	}
}

// Reader is what the chapter says.
type Reader struct {
	self *Reader // another one in a copy, which Open did not make
	rest string  // empty behind an error
	err  api.Errno
}

// Open is a Reader at the beginning of s.
func Open(s string) *Reader {
	r := &Reader{rest: s}
	r.self = r
	return r
}

// Num reads a number of so many bytes.
func (r *Reader) Num(bytes int) int {
	var e api.Errno
	defer r.keep(&e)
	if !isSize(bytes) {
		e = api.ErrArg
		return 0
	}
	return number(r.take(bytes))
}

// Text reads a text that has no more than most bytes.
func (r *Reader) Text(most int) string {
	var e api.Errno
	defer r.keep(&e)
	n := r.Num(2)
	if n > most {
		e = api.ErrLong
		return ""
	}
	return strings.Clone(r.take(n))
}

// Raw reads n bytes.
func (r *Reader) Raw(n int) string {
	// What is answered shares no memory with what Open was handed.
	return strings.Clone(r.take(n))
}

// Left is how many bytes are left.
func (r *Reader) Left() int {
	if r.Err() != api.OK {
		return 0
	}
	return len(r.rest)
}

// Err is the error that stays.
func (r *Reader) Err() api.Errno {
	if r == nil || r.self != r {
		return api.ErrZero
	}
	return r.err
}

// End tells whether all was read; that it was not is no error that stays.
func (r *Reader) End() api.Errno {
	if e := r.Err(); e != api.OK {
		return e
	}
	if r.rest != "" {
		return api.ErrForm
	}
	return api.OK
}

// take cuts n bytes off.
func (r *Reader) take(n int) string {
	e := r.Err()
	defer r.keep(&e)
	switch {
	case e != api.OK:
		return ""
	case n < 0:
		e = api.ErrArg
		return ""
	case n > len(r.rest):
		e = api.ErrShort
		return ""
	}
	s := r.rest[:n]
	r.rest = r.rest[n:]
	return s
}

// keep is deferred, and so sees the error with which a call ends, whichever way it went; one that stands already is the first one, and stays.
func (r *Reader) keep(e *api.Errno) {
	if r.Err() == api.OK && *e != api.OK {
		r.rest, r.err = "", *e
	}
}

// isSize tells whether there are numbers of so many bytes.
func isSize(bytes int) bool {
	return bytes == 1 || bytes == 2 || bytes == 4
}

// appendNumber puts n behind out: a longer number leads on to the bytes of a shorter one.
func appendNumber(out []byte, n, bytes int) []byte {
	switch bytes {
	case 4:
		out = append(out, byte(n>>24), byte(n>>16))
		fallthrough
	case 2:
		out = append(out, byte(n>>8))
		fallthrough
	case 1:
		out = append(out, byte(n))
	}
	return out
}

// number is the number that s is: 0 of no bytes.
func number(s string) int {
	n := 0
	switch len(s) {
	case 4:
		n = int(s[0])<<8 | int(s[1])
		s = s[2:]
		fallthrough
	case 2:
		n = n<<8 | int(s[0])
		s = s[1:]
		fallthrough
	case 1:
		n = n<<8 | int(s[0])
	}
	return n
}
