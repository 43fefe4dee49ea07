// Package wire is no layer of its own: it holds what several layers write and read alike, by octet's Writer and Reader, in which the first error stays.
package wire

import (
	"petrel/api"
	"petrel/octet"
)

// PutText writes a text that is short enough for a length of one byte, unlike those of octet.
func PutText(w *octet.Writer, s string) {
	w.Num(len(s), 1).Raw(s)
}

// Text reads what PutText writes.
func Text(r *octet.Reader) string {
	return r.Raw(r.Num(1))
}

// PutId writes the bytes of an id.
func PutId(w *octet.Writer, id api.Id) {
	w.Raw(string(id[:]))
}

// Id reads what PutId writes.
func Id(r *octet.Reader) api.Id {
	var id api.Id
	copy(id[:], r.Raw(len(id)))
	return id
}

// PutIds writes how many ids there are, in one byte, and these.
func PutIds(w *octet.Writer, l []api.Id) {
	w.Num(len(l), 1)
	for _, id := range l {
		PutId(w, id)
	}
}

// Ids reads what PutIds writes: none, if not all are there.
func Ids(r *octet.Reader) []api.Id {
	var l []api.Id
	for range r.Num(1) {
		l = append(l, Id(r))
	}
	if r.Err() != api.OK {
		return nil
	}
	return l
}
