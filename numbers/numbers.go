// Package numbers writes numbers one behind the other, as layer 7's bytes, and reads them again: for the layers that tell what they have as bytes (chapter 7).
package numbers

import (
	"bourne/api"
	"bourne/varint"
)

// Writer holds the bytes of the numbers that were written; its zero value those of none.
type Writer struct {
	bytes []byte
}

// Put writes numbers, the first one first.
func (w *Writer) Put(numbers ...int) {
	for _, x := range numbers {
		w.bytes = append(w.bytes, varint.Put(x)...)
	}
}

// Text gives what was written.
func (w *Writer) Text() string {
	return string(w.bytes)
}

// Reader reads a text's numbers. One that met what is no number has failed, and stays so: then there is nothing more to be read, and its zeros mean nothing.
type Reader struct {
	text   string
	at     int
	failed bool
}

// Read gives a reader of s, at its first number.
func Read(s string) *Reader {
	return &Reader{text: s}
}

// Next reads a number, 0 if there is none.
func (r *Reader) Next() int {
	if r.failed {
		return 0
	}
	x, end, errno := varint.Get(r.text, r.at)
	if errno != api.OK {
		r.failed = true
		return 0
	}
	r.at = end
	return x
}

// AtEnd tells whether all of the text was read, and was numbers.
func (r *Reader) AtEnd() bool {
	return !r.failed && r.at == len(r.text)
}
