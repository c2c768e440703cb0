package field

import (
	"posthorn/api"
	"posthorn/octet"
)

// place is where a field stands in a message: its first byte, its colon, and the end of its last row.
type place struct{ from, colon, to int }

// header is the fields that were read so far. They are kept as places: what is wrong may come last, and
// then nothing of them is told.
type header struct{ places []place }

// take takes a row that is not the header's end.
func (h *header) take(msg []byte, from, to int) api.Spot {
	row := msg[from:to]
	switch {
	case len(row) > api.MaxRow:
		return api.Spot{Err: api.ErrField, At: from + api.MaxRow}
	case !lineEnd(msg, to):
		return api.Spot{Err: api.ErrField, At: to}
	case isBlank(row[0]):
		return h.fold(row, from)
	}
	return h.begin(row, from)
}

// fold takes a row that begins with a blank.
func (h *header) fold(row []byte, from int) api.Spot {
	last := len(h.places) - 1
	if last < 0 || !isFold(row) {
		return api.Spot{Err: api.ErrFold, At: from}
	}
	h.places[last].to = from + len(row)
	return api.Spot{}
}

// begin takes a row that begins a field.
func (h *header) begin(row []byte, from int) api.Spot {
	at := octet.Bad(octet.Name, row)
	if at == 0 || at == len(row) || row[at] != colon[0] {
		return api.Spot{Err: api.ErrField, At: from + at}
	}
	if len(h.places) == api.MaxFields {
		return api.Spot{Err: api.ErrField, At: from}
	}
	h.places = append(h.places, place{from, from + at, from + len(row)})
	return api.Spot{}
}

// fields cuts the fields out of the message.
func (h *header) fields(msg []byte) []api.Field {
	l := make([]api.Field, len(h.places))
	for i, p := range h.places {
		l[i] = api.Field{Name: string(msg[p.from:p.colon]), Body: string(msg[p.colon+len(colon) : p.to])}
	}
	return l
}
