package sample

import "langdoc/api"

// Wipe clears entries and all that is in them, so that a test sees whether they share memory with others.
func Wipe(l []api.Entry) {
	for _, e := range l {
		clear(e.Form)
		for _, w := range e.Alts {
			clear(w)
		}
		clear(e.Alts)
		clear(e.Senses)
		clear(e.Links)
		clear(e.Refs)
	}
	clear(l)
}
