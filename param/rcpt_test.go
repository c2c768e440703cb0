package param_test

import (
	"math"
	"math/rand"
	"regexp"
	"strings"
	"testing"
	"unicode/utf8"

	"posthorn/api"
	"posthorn/param"
)

// What stands ahead of ORCPT's semicolon.
var kindText = regexp.MustCompile("^[A-Za-z0-9-]+$")

// modelNotify is what NOTIFY's value says; 0, if it may not be.
func modelNotify(s string) int {
	if capitals(s) == "NEVER" {
		return 1
	}
	sum := 0
	for _, word := range strings.Split(s, ",") {
		n := 0
		switch capitals(word) {
		case "SUCCESS":
			n = 2
		case "FAILURE":
			n = 4
		case "DELAY":
			n = 8
		}
		if n == 0 || sum&n != 0 {
			return 0
		}
		sum |= n
	}
	return sum
}

// modelIsOrig tells whether Rcpt may tell this as Orig.
func modelIsOrig(s string) bool {
	at := strings.Index(s, ";")
	if at < 0 || !kindText.MatchString(s[:at]) {
		return false
	}
	text := s[at+1:]
	if capitals(s[:at]) != "UTF-8" {
		return shownText.MatchString(text)
	}
	for _, b := range []byte(text) {
		if b <= 32 || b == '+' || b == '=' || b == '\\' || b == 127 {
			return false
		}
	}
	return text != "" && utf8.ValidString(text)
}

// modelOrig is what ORCPT's value says, and whether it may be.
func modelOrig(s string) (string, bool) {
	at := strings.Index(s, ";")
	if at < 0 || capitals(s[:at]) == "UTF-8" {
		return s, modelIsOrig(s)
	}
	text, spot := modelUnxtext(s[at+1:])
	return s[:at+1] + text, spot.Err == api.OK && modelIsOrig(s[:at+1]+text)
}

// modelSayRcpt is what P10.5 says of one parameter; whether it may be so.
func modelSayRcpt(o *api.RcptOpts, it api.Param) bool {
	if capitals(it.Name) == "NOTIFY" {
		o.Notify = modelNotify(it.Value)
		return it.Has && o.Notify > 0
	}
	orig, ok := modelOrig(it.Value)
	o.HasOrig, o.Orig = true, orig
	return it.Has && ok
}

// checkRcpt holds Rcpt against the model, and what it tells against P10.9.
func checkRcpt(t *testing.T, l []api.Param) {
	t.Helper()
	var o api.RcptOpts
	e := modelOrder(l, []string{"NOTIFY", "ORCPT"}, func(it api.Param) bool { return modelSayRcpt(&o, it) })
	if e != api.OK {
		o = api.RcptOpts{}
	}
	wantRcpt(t, l, o, e)
	if e == api.OK {
		again, e := param.OfRcpt(o)
		if e != api.OK {
			t.Errorf("OfRcpt of what %v says: %d", l, e)
		}
		wantRcpt(t, again, o, api.OK)
	}
}

// rcptValues are values of all sorts, such as may be and others.
func rcptValues() []string {
	return []string{
		"", "NEVER", "never", "nEVEr", "SUCCESS", "success", "SuCCess", "FAILURE", "failure", "DELAY", "delay", "SUCCESS,FAILURE", "FAILURE,SUCCESS", "delay,Success", "DELAY,FAILURE,SUCCESS", "success,delay,failure", "SUCCESS,FAILURE,DELAY,NEVER", "NEVER,NEVER", "NEVER,SUCCESS", "SUCCESS,NEVER", "SUCCESS,SUCCESS", "delay,DELAY", "DELAY,FAILURE,delay",
		",", ",DELAY", "DELAY,", "DELAY,,FAILURE", "NEVER,", ",NEVER", " DELAY", "DELAY ", "DELAY, FAILURE", "DELAY;FAILURE", "DELAYS", "DELA", "SUCCE\u017fS", "1", "8", "é", "\xff", "DELAY,\xff", "DELAY+2CFAILURE", strings.Repeat("DELAY,", 1000),
		"rfc822;ann@x", "rfc822;ann@x+2Ey", "RFC822;Ann@X", "rfc822;a;b", "rfc822;;", ";", ";a", "rfc822", "rfc822;", "a;b", "-;b", "x-y-9;z", "a_b;c", "a.b;c", "a b;c", "a+20;c", "é;c", "\xff;c", "a=b;c", "rfc822;a=b", "rfc822;a b", "rfc822;a+20b", "rfc822;+20", "rfc822;+09", "rfc822;+1F", "rfc822;+7F", "rfc822;+7E", "rfc822;+80", "rfc822;+C3+A9", "rfc822;é", "rfc822;\\", "rfc822;+2b", "rfc822;+2", "rfc822;+", "rfc822;+3B", "rfc822+3Ba", "rfc822;a+5Cb", "rfc822;a+2Bb",
		"utf-8;a", "UTF-8;é@x", "utf-8;é", "Utf-8;€\xf0\x9f\x92\xa9", "utf-8;a+20b", "utf-8;a+b", "utf-8;a=b", "utf-8;a b", "utf-8;a\\b", "utf-8;\\x{20}", "utf-8;", "utf-8", "utf-8;;", "utf-8;a;b", "utf-8;\xff", "utf-8;a\xc3", "utf-8;\xc3\xa9\xa9", "utf-8;\xed\xa0\x80", "utf-8;é+20", "utf-8;é\x7f", "utf-8;\x00", "utf8;é", "utf-8-;é", "utf-88;a+20b", "-utf-8;é", "utf-8;~!", "UTF-8;A", "utf_8;a",
	}
}

// P10.5, P10.9: each parameter with each value.
func TestRcptOfOne(t *testing.T) {
	wantRcpt(t, nil, api.RcptOpts{}, api.OK)
	wantRcpt(t, []api.Param{}, api.RcptOpts{}, api.OK)
	for _, name := range []string{"NOTIFY", "ORCPT"} {
		for _, value := range rcptValues() {
			for _, it := range eachWay(name, value) {
				checkRcpt(t, []api.Param{it})
			}
		}
		for i := range 256 {
			c := string([]byte{byte(i)})
			for _, value := range []string{c, "DELAY" + c, "DELAY" + c + "FAILURE", c + "NEVER", "DELA" + c, c + ";b", "a" + c + ";b", "a" + c + "b", "utf" + c + "8;é", "a;" + c, "a;b" + c + "d", "a;" + param.Xtext(c), "a;+" + c + "0", "a;+2" + c, "utf-8;" + c, "UTF-8;b" + c + "d", "utf-8;é" + c, "utf-8;" + param.Xtext(c), "Utf-8;\xc3" + c, "utf-8" + c} {
				checkRcpt(t, []api.Param{{Name: name, Value: value, Has: true}})
			}
			checkRcpt(t, []api.Param{{Name: name + c}})
			checkRcpt(t, []api.Param{{Name: name[:1] + c + name[2:], Value: "DELAY", Has: true}})
		}
	}
}

// P10.5: NOTIFY with each row of words.
func TestNotify(t *testing.T) {
	words := []string{"SUCCESS", "failure", "Delay", "DELAY", "nEVER", ""}
	rows([]string{"0", "1", "2", "3", "4", "5"}, 4, func(s string) {
		if s == "" {
			return
		}
		var l []string
		for i := range len(s) {
			l = append(l, words[s[i]-'0'])
		}
		checkRcpt(t, []api.Param{{Name: "NOTIFY", Value: strings.Join(l, ","), Has: true}})
	})
	for value, want := range map[string]int{
		"NEVER": 1, "SUCCESS": 2, "FAILURE": 4, "DELAY": 8, "SUCCESS,FAILURE": 6, "failure,success": 6, "SUCCESS,DELAY": 10, "DELAY,success": 10, "FAILURE,DELAY": 12, "delay,FAILURE": 12, "SUCCESS,FAILURE,DELAY": 14, "DELAY,SUCCESS,FAILURE": 14, "FAILURE,DELAY,SUCCESS": 14, "never": 1,
	} {
		wantRcpt(t, list("NOTIFY="+value), api.RcptOpts{Notify: want}, api.OK)
		wantRcpt(t, list("notify="+value), api.RcptOpts{Notify: want}, api.OK)
	}
	for _, value := range []string{"", "NEVER,DELAY", "DELAY,NEVER", "NEVER,NEVER", "SUCCESS,FAILURE,DELAY,NEVER", "DELAY,DELAY", "SUCCESS,DELAY,success", ",", "DELAY,", ",DELAY", "DELAY,,SUCCESS", "NEVER,", "DELAY FAILURE", "DELAY;FAILURE", "ALWAYS", "DELAY,ALWAYS", "SUCCE\u017fS"} {
		wantRcpt(t, []api.Param{{Name: "NOTIFY", Value: value, Has: true}}, api.RcptOpts{}, api.ErrValue)
	}
	wantRcpt(t, []api.Param{{Name: "NOTIFY", Value: "DELAY"}}, api.RcptOpts{}, api.ErrValue)
	wantRcpt(t, list("NOTIFY"), api.RcptOpts{}, api.ErrValue)
}

// P10.5: ORCPT, without the model.
func TestOrig(t *testing.T) {
	for value, want := range map[string]string{
		"rfc822;ann@x": "rfc822;ann@x", "RFC822;A+20b": "RFC822;A b", "x;a;b": "x;a;b", "x;;": "x;;", "x;+3B": "x;;", "-;+20": "-; ", "x;\\": "x;\\", "x;+5C": "x;\\", "x;+2B2B": "x;+2B",
		"utf-8;a": "utf-8;a", "UTF-8;é": "UTF-8;é", "uTf-8;€@ü": "uTf-8;€@ü", "utf-8;a;b": "utf-8;a;b", "utf-8;;": "utf-8;;", "utf8;+20": "utf8; ", "utf-8x;+20\\": "utf-8x; \\",
	} {
		wantRcpt(t, list("ORCPT="+value), api.RcptOpts{HasOrig: true, Orig: want}, api.OK)
		wantRcpt(t, list("Orcpt="+value), api.RcptOpts{HasOrig: true, Orig: want}, api.OK)
		wantRcpt(t, []api.Param{{Name: "ORCPT", Value: value}}, api.RcptOpts{}, api.ErrValue)
	}
	for _, value := range []string{"", ";", "x", "x;", ";x", "utf-8", "utf-8;", "x_;a", "x.y;a", "x;a=b", "x;a b", "x;é", "x;+09", "x;+7F", "x;+C3+A9", "x;+2b", "x;+2", "utf-8;a+2Bb", "utf-8;+20", "utf-8;a=b", "utf-8;a b", "utf-8;a\\", "utf-8;\xff", "utf-8;a\xc3", "utf-8;\x7f", "utf8;é", "é;a"} {
		wantRcpt(t, []api.Param{{Name: "ORCPT", Value: value, Has: true}}, api.RcptOpts{}, api.ErrValue)
	}
	wantRcpt(t, list("ORCPT"), api.RcptOpts{}, api.ErrValue)
}

// P10.5, R5: the order of the errors.
func TestOrderOfRcptErrors(t *testing.T) {
	for _, c := range []struct {
		l []api.Param
		e api.Errno
	}{
		{list("SIZE=1"), api.ErrUnknown}, {list("BODY=7BIT"), api.ErrUnknown}, {list("SMTPUTF8"), api.ErrUnknown}, {list("NOTIFY=x", "X"), api.ErrUnknown}, {list("NOTIFY=DELAY", "NOTIFY=DELAY", ""), api.ErrUnknown}, {list("NOTIF\u0178=DELAY"), api.ErrUnknown},
		{list("NOTIFY=DELAY", "notify=x"), api.ErrTwice}, {list("ORCPT=a;b", "orcpt=a;b"), api.ErrTwice}, {list("ORCPT=a;b", "NOTIFY=DELAY", "ORCPT"), api.ErrTwice},
		{list("NOTIFY=x", "NOTIFY=x"), api.ErrValue}, {list("ORCPT=x", "NOTIFY=DELAY", "NOTIFY=DELAY"), api.ErrValue}, {list("NOTIFY=DELAY", "ORCPT=x", "NOTIFY=DELAY"), api.ErrValue}, {list("NOTIFY=DELAY", "NOTIFY=DELAY", "ORCPT=x"), api.ErrTwice},
	} {
		wantRcpt(t, c.l, api.RcptOpts{}, c.e)
	}
	for _, v := range rcptValues() {
		for _, w := range rcptValues() {
			checkRcpt(t, []api.Param{{Name: "NOTIFY", Value: v, Has: v != ""}, {Name: "orcpt", Value: w, Has: true}})
			checkRcpt(t, []api.Param{{Name: "Orcpt", Value: v, Has: true}, {Name: "NOTIFY", Value: w, Has: w != ""}})
			checkRcpt(t, []api.Param{{Name: "ORCPT", Value: v, Has: true}, {Name: "orcpt", Value: w, Has: true}})
			checkRcpt(t, []api.Param{{Name: "NOTIFY", Value: v, Has: true}, {Name: "Notify", Value: w, Has: true}})
		}
	}
}

// P10.10: in every order, and in other capitals.
func TestRcptInAnyOrder(t *testing.T) {
	for _, notify := range []string{"NEVER", "SUCCESS", "FAILURE,SUCCESS", "DELAY,SUCCESS,FAILURE"} {
		for _, orig := range []string{"rfc822;Ann@X", "UTF-8;É@x", "x;A+2Bb"} {
			l := list("NOTIFY="+notify, "ORCPT="+orig)
			var want api.RcptOpts
			for _, it := range l {
				modelSayRcpt(&want, it)
			}
			orders(l, func(l []api.Param) {
				for _, other := range inOtherCapitals(l, "NOTIFY") {
					wantRcpt(t, other, want, api.OK)
				}
			})
		}
	}
}

// modelOfRcpt is what P10.7 says.
func modelOfRcpt(o api.RcptOpts) ([]api.Param, api.Errno) {
	texts := []string{0: "", 1: "NEVER", 2: "SUCCESS", 4: "FAILURE", 6: "SUCCESS,FAILURE", 8: "DELAY", 10: "SUCCESS,DELAY", 12: "FAILURE,DELAY", 14: "SUCCESS,FAILURE,DELAY"}
	if o.Notify < 0 || o.Notify >= len(texts) || o.Notify > 0 && texts[o.Notify] == "" || o.HasOrig && !modelIsOrig(o.Orig) || !o.HasOrig && o.Orig != "" {
		return nil, api.ErrValue
	}
	var l []api.Param
	if o.Notify > 0 {
		l = append(l, api.Param{Name: "NOTIFY", Value: texts[o.Notify], Has: true})
	}
	if o.HasOrig {
		kind, text, _ := strings.Cut(o.Orig, ";")
		if capitals(kind) != "UTF-8" {
			text = modelXtext(text)
		}
		l = append(l, api.Param{Name: "ORCPT", Value: kind + ";" + text, Has: true})
	}
	return l, api.OK
}

// checkOfRcpt holds OfRcpt against the model, and what it tells against P10.9.
func checkOfRcpt(t *testing.T, o api.RcptOpts) {
	t.Helper()
	l, e := modelOfRcpt(o)
	wantOfRcpt(t, o, l, e)
	if e != api.OK {
		return
	}
	wantRcpt(t, l, o, api.OK)
	s, e := param.Print(l)
	if e != api.OK {
		t.Errorf("Print of what OfRcpt(%v) tells: %d", o, e)
	}
	wantParse(t, s, true, l...)
	if strings.IndexFunc(o.Orig, func(r rune) bool { return r > 127 }) < 0 {
		wantParse(t, s, false, l...)
	} else if _, spot := param.Parse(s, false); spot.Err != api.ErrValue {
		t.Errorf("%q: read with wide false", s)
	}
}

// P10.7, P10.9, R8: every field at its edges and one beyond, and Orig where HasOrig is false.
func TestOfRcpt(t *testing.T) {
	origs := append(rcptValues(), "rfc822;a b", "rfc822; ", "rfc822;+=", "x;\t", "x;\x7f", "utf-8;a b", "x;a;b", "x;é", "UTF-8;é", "utf-8;+")
	for i := range 256 {
		c := string([]byte{byte(i)})
		origs = append(origs, c, c+";b", "a"+c+"b", "a"+c+";b", "a;"+c, "a;b"+c, "utf-8;"+c, "Utf-8;a"+c, "utf-8;é"+c, "UTF-8;\xc3"+c, "utf"+c+"8;a b")
	}
	for _, orig := range origs {
		for _, has := range []bool{false, true} {
			for _, notify := range []int{0, 1, 2, 3, 14, 16} {
				checkOfRcpt(t, api.RcptOpts{Notify: notify, HasOrig: has, Orig: orig})
			}
		}
	}
	for _, notify := range []int{math.MinInt, math.MaxInt, -14, 1 << 32, 1<<32 + 2, math.MinInt + 2, 256, 258} {
		wantOfRcpt(t, api.RcptOpts{Notify: notify}, nil, api.ErrValue)
	}
	for notify := -20; notify < 70; notify++ {
		checkOfRcpt(t, api.RcptOpts{Notify: notify})
		checkOfRcpt(t, api.RcptOpts{Notify: notify, HasOrig: true, Orig: "x;y"})
	}
}

// P10.7, without the model; and again, for what hangs on the order in which a map is gone through.
func TestOfRcptInItsOrder(t *testing.T) {
	for range 100 {
		for notify, want := range map[int]string{1: "NEVER", 2: "SUCCESS", 4: "FAILURE", 6: "SUCCESS,FAILURE", 8: "DELAY", 10: "SUCCESS,DELAY", 12: "FAILURE,DELAY", 14: "SUCCESS,FAILURE,DELAY"} {
			wantOfRcpt(t, api.RcptOpts{Notify: notify}, list("NOTIFY="+want), api.OK)
			wantOfRcpt(t, api.RcptOpts{Notify: notify, HasOrig: true, Orig: "Rfc822;a b"}, list("NOTIFY="+want, "ORCPT=Rfc822;a+20b"), api.OK)
		}
	}
	wantOfRcpt(t, api.RcptOpts{}, nil, api.OK)
	wantOfRcpt(t, api.RcptOpts{HasOrig: true, Orig: "uTF-8;é;<>"}, list("ORCPT=uTF-8;é;<>"), api.OK)
	wantOfRcpt(t, api.RcptOpts{HasOrig: true, Orig: "x;a;\\+="}, list("ORCPT=x;a;\\+2B+3D"), api.OK)
	for _, o := range []api.RcptOpts{{Notify: -1}, {Notify: 3}, {Notify: 15}, {Notify: 16}, {Orig: "x;y"}, {Orig: "x"}, {HasOrig: true}, {HasOrig: true, Orig: "x"}, {HasOrig: true, Orig: "x;"}, {HasOrig: true, Orig: ";x"}, {HasOrig: true, Orig: "x;\t"}, {HasOrig: true, Orig: "x;é"}, {HasOrig: true, Orig: "utf-8;a b"}, {HasOrig: true, Orig: "utf-8;\xff"}, {HasOrig: true, Orig: "utf-8;\\"}} {
		wantOfRcpt(t, o, nil, api.ErrValue)
	}
}

// P10.5, P10.7, P10.9: at random.
func TestRcptAtRandom(t *testing.T) {
	r := rand.New(rand.NewSource(13))
	values := rcptValues()
	names := []string{"NOTIFY", "notify", "ORCPT", "OrCpt", "X"}
	for range 50000 {
		var l []api.Param
		for range r.Intn(4) {
			l = append(l, api.Param{Name: names[r.Intn(len(names)-r.Intn(2))], Value: values[r.Intn(len(values))], Has: r.Intn(8) > 0})
		}
		checkRcpt(t, l)
		text := []byte("x;")
		if r.Intn(2) == 0 {
			text = []byte("utf-8;")
		}
		for range r.Intn(5) {
			text = append(text, "aZ0+=\\ ~;\t\x7f\xc3\xa9\xff"[r.Intn(14)])
		}
		checkOfRcpt(t, api.RcptOpts{Notify: r.Intn(17), HasOrig: r.Intn(4) > 0, Orig: string(text)})
	}
}
