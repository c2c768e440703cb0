package reply

import (
	"strings"

	"posthorn/api"
	"posthorn/octet"
)

const (
	point    = "."
	mostPart = 999 // of a status's subject, and of its detail
)

// none is the status of a reply that has none.
func none() api.Status { return api.Status{} }

// isStatus tells whether s is a status; none is not one.
func isStatus(s api.Status) bool {
	return (s.Class == 2 || s.Class == 4 || s.Class == 5) && isPart(s.Subject) && isPart(s.Detail)
}

func isPart(n int) bool { return 0 <= n && n <= mostPart }

// written is a status as it is written.
func written(s api.Status) string {
	return octet.Decimal(uint64(s.Class)) + point + octet.Decimal(uint64(s.Subject)) + point + octet.Decimal(uint64(s.Detail))
}

// statusOf is the status that a word writes; none, if it writes none.
func statusOf(word string) api.Status {
	class, behind, _ := strings.Cut(word, point)
	subject, detail, _ := strings.Cut(behind, point)
	s := api.Status{Class: part(class), Subject: part(subject), Detail: part(detail)}
	// Written again it shows whether a part had noughts ahead, was no number, or was not there.
	if !isStatus(s) || written(s) != word {
		return none()
	}
	return s
}

// part is a number of a status; 0, if the text says none that a status may have.
func part(text string) int {
	n, _ := octet.Number(text, mostPart)
	return int(n)
}

// commonStatus is the one status of the code's class with which all texts begin; none, if there is no such one.
func commonStatus(code int, texts []string) api.Status {
	common := none()
	for i, text := range texts {
		word, _, _ := strings.Cut(text, " ")
		s := statusOf(word)
		if s.Class != classOf(code) || i > 0 && s != common {
			return none()
		}
		common = s
	}
	return common
}

// behindStatus is what stands behind a text's status and its blank.
func behindStatus(text string) string {
	_, behind, _ := strings.Cut(text, " ")
	return behind
}
