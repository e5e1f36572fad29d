package net

import "homestead/api"

// gram is a datagram in the row. Its bytes are a text, as nothing changes one: so all copies of it may share them.
type gram struct {
	from, to int
	data     string
}

// told is g as it is handed out, its bytes in memory of their own.
func (g gram) told() api.Gram {
	return api.Gram{From: g.from, To: g.to, Data: []byte(g.data)}
}

// row has things at places from 0 on, without gaps.
type row[T any] []T

// at is what stands at a place, if anything does.
func (r row[T]) at(place int) (T, bool) {
	if place < 0 || place >= len(r) {
		var none T
		return none, false
	}
	return r[place], true
}

// join puts one at the end.
func (r *row[T]) join(one T) {
	*r = append(*r, one)
}

// leave has all go of which goes tells so, and answers how many these were; all others stay in their order.
func (r *row[T]) leave(goes func(place int, one T) bool) int {
	stay := (*r)[:0]
	for place, one := range *r {
		if !goes(place, one) {
			stay = append(stay, one)
		}
	}
	// What has gone is not to be kept behind the row's end.
	gone := (*r)[len(stay):]
	clear(gone)
	*r = stay
	return len(gone)
}
