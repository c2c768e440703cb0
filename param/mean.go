package param

import (
	"slices"

	"posthorn/api"
	"posthorn/octet"
)

// mean hands the parameters of a command on, one by one, their Names in capitals; known tells whether there is
// one of this Name, say whether it may be as it is.
func mean(l []api.Param, known func(string) bool, say func(api.Param) bool) api.Errno {
	for _, p := range l {
		if !known(octet.Upper(p.Name)) {
			return api.ErrUnknown
		}
	}
	var names []string
	for _, p := range l {
		p.Name = octet.Upper(p.Name)
		if slices.Contains(names, p.Name) {
			return api.ErrTwice
		}
		if !say(p) {
			return api.ErrValue
		}
		names = append(names, p.Name)
	}
	return api.OK
}

// add puts a parameter behind others, if it was said.
func add(l []api.Param, said bool, name, value string) []api.Param {
	if !said {
		return l
	}
	return append(l, api.Param{Name: name, Value: value, Has: value != ""})
}
