package reply_test

import (
	"regexp"
	"slices"
	"strconv"
	"strings"

	"posthorn/api"
)

// What the chapter's sections Replies and Reading say, of whole texts.

var (
	modelStatus = regexp.MustCompile(`^([245])\.(0|[1-9][0-9]{0,2})\.(0|[1-9][0-9]{0,2})( |$)`)
	modelCode   = regexp.MustCompile(`^[2-5][0-5][0-9]$`)
)

func modelText(s string) bool {
	for i := range len(s) {
		if c := s[i]; c != 9 && (c < 32 || c > 126) && c <= 127 {
			return false
		}
	}
	return true
}

// modelCommon is the status that is taken off the lines of a reply, and whether there is one.
func modelCommon(code int, lines []string) (api.Status, bool) {
	var found []string
	for _, s := range lines {
		m := modelStatus.FindStringSubmatch(s)
		if m == nil {
			return api.Status{}, false
		}
		found = append(found, strings.Join(m[1:4], "."))
	}
	if len(slices.Compact(found)) != 1 || found[0][:1] != strconv.Itoa(code)[:1] {
		return api.Status{}, false
	}
	var n [3]int
	for i, part := range strings.Split(found[0], ".") {
		n[i], _ = strconv.Atoi(part)
	}
	return api.Status{Class: n[0], Subject: n[1], Detail: n[2]}, true
}

// modelPrint is how a reply is written, whether it may be or not.
func modelPrint(r api.Reply) string {
	out := ""
	for i, text := range r.Lines {
		out += strconv.Itoa(r.Code)
		if i < len(r.Lines)-1 {
			out += "-"
		} else {
			out += " "
		}
		if r.Status != (api.Status{}) {
			out += strconv.Itoa(r.Status.Class) + "." + strconv.Itoa(r.Status.Subject) + "." + strconv.Itoa(r.Status.Detail) + " "
		}
		out += text + "\r\n"
	}
	return out
}

// modelMay tells whether a reply may be.
func modelMay(r api.Reply) bool {
	if !modelCode.MatchString(strconv.Itoa(r.Code)) || len(r.Lines) < 1 || len(r.Lines) > 64 {
		return false
	}
	s := r.Status
	if s != (api.Status{}) {
		if !slices.Contains([]int{2, 4, 5}, s.Class) || s.Class != r.Code/100 {
			return false
		}
		if s.Subject < 0 || s.Subject > 999 || s.Detail < 0 || s.Detail > 999 {
			return false
		}
	} else if _, ok := modelCommon(r.Code, r.Lines); ok {
		return false
	}
	for _, text := range r.Lines {
		row := modelPrint(api.Reply{Code: r.Code, Status: s, Lines: []string{text}})
		if !modelText(text) || len(row)-2 > 510 {
			return false
		}
	}
	return true
}

// modelRow tells whether a row is right, as the how manieth of a reply (from 1 on), whose code is this (or any, if
// it is empty).
func modelRow(row, code string, number int) bool {
	if len(row) < 3 || len(row) > 510 || !modelCode.MatchString(row[:3]) {
		return false
	}
	if code != "" && row[:3] != code {
		return false
	}
	if len(row) == 3 {
		return true
	}
	return (row[3] == ' ' || row[3] == '-' && number < 64) && modelText(row[4:])
}

// modelBegins tells whether a right row may begin so.
func modelBegins(begun, code string, number int) bool {
	if len(begun) >= 3 {
		return modelRow(begun, code, number)
	}
	behind := code
	if code == "" {
		behind = "200"
	}
	return modelRow(begun+behind[len(begun):], code, number)
}

// modelRead is what a reader tells that was fed all of s: the replies, the place of the first wrong byte (-1, if
// there is none), and how many bytes it holds.
func modelRead(s string) (told []api.Reply, at, held int) {
	code, begin := "", 0
	var texts []string
	for i := 0; i < len(s); {
		row, _, ended := strings.Cut(s[i:], "\r\n")
		if n := modelWrong(row, code, len(texts)+1, ended); n >= 0 {
			return told, i + n, 0
		}
		if !ended {
			break
		}
		code = row[:3]
		texts = append(texts, row[min(4, len(row)):])
		i += len(row) + 2
		if len(row) > 3 && row[3] == '-' {
			continue
		}
		told = append(told, modelReply(code, texts))
		code, texts, begin = "", nil, i
	}
	return told, -1, len(s) - begin
}

// modelWrong is the place of the first wrong byte of a row, which has its line end behind it, or has not; -1, if
// there is none.
func modelWrong(row, code string, number int, ended bool) int {
	for n := range len(row) {
		if row[n] == '\r' && modelRow(row[:n], code, number) {
			if n == len(row)-1 && !ended {
				return -1
			}
			return n + 1 // behind a CR no LF stands
		}
		if !modelBegins(row[:n+1], code, number) {
			return n
		}
	}
	if ended && !modelRow(row, code, number) {
		return len(row)
	}
	return -1
}

func modelReply(code string, texts []string) api.Reply {
	n, _ := strconv.Atoi(code)
	s, ok := modelCommon(n, texts)
	if !ok {
		return api.Reply{Code: n, Lines: texts}
	}
	r := api.Reply{Code: n, Status: s}
	for _, text := range texts {
		r.Lines = append(r.Lines, text[len(modelStatus.FindString(text)):])
	}
	return r
}
