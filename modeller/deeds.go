package modeller

import "hachure/api"

// deed is what a line does.
type deed interface {
	// on returns the books after it, and its answer, or its error.
	on(b books) (after books, answer string, e api.Errno)
}

// change is a deed that changes books.
type change func(b *books)

func (c change) on(b books) (after books, answer string, e api.Errno) {
	c(&b)
	if e := b.fault(); e != api.OK {
		return books{}, "", e
	}
	return b, "", api.OK
}

// question is a deed that asks, and leaves books as they are.
type question func(b books) (answer string, e api.Errno)

func (q question) on(b books) (after books, answer string, e api.Errno) {
	answer, e = q(b)
	if e != api.OK {
		return books{}, "", e
	}
	return b, answer, api.OK
}
