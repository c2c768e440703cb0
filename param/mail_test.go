package param_test

import (
	"math"
	"math/big"
	"math/rand"
	"regexp"
	"slices"
	"strconv"
	"strings"
	"testing"

	"posthorn/api"
	"posthorn/param"
	"posthorn/path"
)

// What shown texts and sizes are.
var (
	shownText = regexp.MustCompile("^[ -~]+$")
	sizeText  = regexp.MustCompile("^[0-9]{1,20}$")
)

// isBox tells whether path.Box reads a text.
func isBox(s string) bool {
	_, spot := path.Box(s, false)
	return spot.Err == api.OK
}

// modelSayMail is what P10.4 says of one parameter; whether it may be so.
func modelSayMail(o *api.MailOpts, it api.Param) bool {
	name, word := capitals(it.Name), capitals(it.Value)
	text, spot := modelUnxtext(it.Value)
	if name == "SMTPUTF8" {
		o.Wide = true
		return !it.Has && it.Value == ""
	}
	switch {
	case !it.Has:
		return false
	case name == "SIZE" && sizeText.MatchString(it.Value):
		n, _ := new(big.Int).SetString(it.Value, 10)
		o.HasSize, o.Size = true, n.Int64()
		return n.IsInt64()
	case name == "BODY" && word == "7BIT":
		o.Body = 1
	case name == "BODY" && word == "8BITMIME":
		o.Body = 2
	case name == "BODY" && word == "BINARYMIME":
		o.Body = 3
	case name == "RET" && word == "FULL":
		o.Ret = 1
	case name == "RET" && word == "HDRS":
		o.Ret = 2
	case name == "ENVID" && spot.Err == api.OK && shownText.MatchString(text):
		o.HasId, o.Id = true, text
	case name == "AUTH" && it.Value == "<>":
		o.HasAuth = true
	case name == "AUTH" && spot.Err == api.OK && isBox(text):
		o.HasAuth, o.Auth = true, text
	default:
		return false
	}
	return true
}

// modelOrder is in which order P10.4 and P10.5 look for errors.
func modelOrder(l []api.Param, names []string, say func(api.Param) bool) api.Errno {
	for _, it := range l {
		if !slices.Contains(names, capitals(it.Name)) {
			return api.ErrUnknown
		}
	}
	for i, it := range l {
		for _, ahead := range l[:i] {
			if capitals(ahead.Name) == capitals(it.Name) {
				return api.ErrTwice
			}
		}
		if !say(it) {
			return api.ErrValue
		}
	}
	return api.OK
}

// checkMail holds Mail against the model, and what it tells against P10.9.
func checkMail(t *testing.T, l []api.Param) {
	t.Helper()
	var o api.MailOpts
	e := modelOrder(l, []string{"SIZE", "BODY", "SMTPUTF8", "RET", "ENVID", "AUTH"}, func(it api.Param) bool { return modelSayMail(&o, it) })
	if e != api.OK {
		o = api.MailOpts{}
	}
	wantMail(t, l, o, e)
	if e == api.OK {
		again, e := param.OfMail(o)
		if e != api.OK {
			t.Errorf("OfMail of what %v says: %d", l, e)
		}
		wantMail(t, again, o, api.OK)
	}
}

// eachWay are a parameter with and without Has, and with capitals of all sorts.
func eachWay(name, value string) []api.Param {
	var l []api.Param
	small := strings.ToLower(name)
	for _, name := range []string{name, small, small[:1] + name[1:], name[:1] + small[1:]} {
		l = append(l, api.Param{Name: name, Value: value, Has: true}, api.Param{Name: name, Value: value})
	}
	return l
}

// mailValues are values of all sorts, such as may be and others.
func mailValues() []string {
	return []string{
		"", "0", "1", "007", "10", "-1", "+1", "1.", " 1", "1 ", "x", "1x", "é", "\xff",
		"9223372036854775806", "9223372036854775807", "9223372036854775808", "09223372036854775807", "09223372036854775808", "9999999999999999999", "18446744073709551615", "18446744073709551616", "18446744073709551617", "99999999999999999999", "00000000000000000000", "00000000000000000001", "000000000000000000001", "000000000000000000000", "100000000000000000000",
		"7BIT", "7bit", "7BiT", "8BITMIME", "8bitmime", "8BitMime", "BINARYMIME", "binarymime", "bINARYMIMe", "9BIT", "7BIT ", "7BITS", "7BI", "8BIT", "BINARY", "8BITMIME,7BIT", "8BITM\u0131ME",
		"FULL", "full", "fULl", "HDRS", "hdrs", "hDRs", "HDR", "FULLY", "HDRSS", "hdr\u017f", "NONE",
		"q+2B1", "a", "~", "!", "+20", "+7E", "+1F", "+7F", "+09", "+80", "+C3+A9", "a+09", "a+20b", "+2b", "+2", "+", "a=b", "a b", "+00", "+0D+0A", "+2B+3D", strings.Repeat("x", 60),
		"<>", "< >", "<", "<>>", "+3C+3E", "<+3E", "<a@b>", "ann@example", "a+2Bb@x", "a+b@x", "ann", "@x", "a@", "+22a+20b+22@x.example", "\"a+20b\"@x", "\"a\"@[1.2.3.4]", "a@[IPv6:::1]", "a@x ", "a@x+20", "a@b@c", "\xc3\xa9@x", "+C3+A9@x", "a@+C3+BC", "a+40b.example", "+61@x", "+22+22@x", strings.Repeat("a", 64) + "@x", strings.Repeat("a", 65) + "@x", "a+3Db@x", "a=b@x", "Postmaster",
	}
}

// mailNames are names of all sorts.
func mailNames() []string { return []string{"SIZE", "BODY", "SMTPUTF8", "RET", "ENVID", "AUTH"} }

// P10.4, P10.9: each parameter with each value.
func TestMailOfOne(t *testing.T) {
	wantMail(t, nil, api.MailOpts{}, api.OK)
	wantMail(t, []api.Param{}, api.MailOpts{}, api.OK)
	for _, name := range mailNames() {
		for _, value := range mailValues() {
			for _, it := range eachWay(name, value) {
				checkMail(t, []api.Param{it})
			}
		}
		for i := range 256 {
			c := string([]byte{byte(i)})
			for _, value := range []string{c, "a" + c, "1" + c, c + "7BIT", "FUL" + c, "+" + c + "0", "+2" + c, "a@x" + c, c + "a@x", "a" + c + "b@x.y", "\"" + c + "\"@x"} {
				checkMail(t, []api.Param{{Name: name, Value: value, Has: true}})
				checkMail(t, []api.Param{{Name: name, Value: param.Xtext(value), Has: true}})
			}
			checkMail(t, []api.Param{{Name: name + c}})
			checkMail(t, []api.Param{{Name: name[:1] + c + name[2:], Value: "1", Has: true}})
		}
	}
}

// P10.4: what the parameters say, without the model.
func TestMail(t *testing.T) {
	for value, want := range map[string]int64{"0": 0, "00": 0, "007": 7, "9223372036854775807": math.MaxInt64, "09223372036854775807": math.MaxInt64, "00000000000000000042": 42} {
		wantMail(t, list("SIZE="+value), api.MailOpts{HasSize: true, Size: want}, api.OK)
		wantMail(t, list("sIzE="+value), api.MailOpts{HasSize: true, Size: want}, api.OK)
	}
	for value, want := range map[string]int{"7BIT": api.Body7, "7bit": api.Body7, "8BITMIME": api.Body8, "8bitMIME": api.Body8, "BINARYMIME": api.BodyBinary, "BinaryMime": api.BodyBinary} {
		wantMail(t, list("BODY="+value), api.MailOpts{Body: want}, api.OK)
	}
	for value, want := range map[string]int{"FULL": api.RetFull, "Full": api.RetFull, "HDRS": api.RetHead, "hdrs": api.RetHead} {
		wantMail(t, list("RET="+value), api.MailOpts{Ret: want}, api.OK)
	}
	for value, want := range map[string]string{"a": "a", "a+20b": "a b", "+20": " ", "+2B+3D": "+=", "<>": "<>", "~!;": "~!;"} {
		wantMail(t, list("ENVID="+value), api.MailOpts{HasId: true, Id: want}, api.OK)
	}
	for value, want := range map[string]string{"<>": "", "a@x": "a@x", "+61@x": "a@x", "\"a+20b\"@x": "\"a b\"@x", "a@[1.2.3.4]": "a@[1.2.3.4]", "a+3Db@x": "a=b@x", "\"a\"@x": "\"a\"@x"} {
		wantMail(t, list("AUTH="+value), api.MailOpts{HasAuth: true, Auth: want}, api.OK)
	}
	wantMail(t, list("smtputf8"), api.MailOpts{Wide: true}, api.OK)
	for _, s := range []string{
		"SIZE", "SIZE=", "SIZE=-1", "SIZE=+1", "SIZE=000000000000000000000", "SIZE=9223372036854775808", "SIZE=18446744073709551617", "BODY", "BODY=", "BODY=8BIT", "SMTPUTF8=", "SMTPUTF8=x", "RET", "RET=", "RET=BOTH",
		"ENVID", "ENVID=", "ENVID=+09", "ENVID=+7F", "ENVID=+C3+A9", "ENVID=é", "ENVID=a=b", "ENVID=+2b", "ENVID=a b", "AUTH", "AUTH=", "AUTH=a", "AUTH=<a@x>", "AUTH=+3C+3E", "AUTH=é@x", "AUTH=+C3+A9@x", "AUTH=a+b@x", "AUTH=a=b@x", "AUTH=a@x+20",
	} {
		wantMail(t, list(s), api.MailOpts{}, api.ErrValue)
	}
	for _, name := range mailNames() {
		for _, value := range []string{"1", "7BIT", "FULL", "a@x", "x"} {
			wantMail(t, []api.Param{{Name: name, Value: value}}, api.MailOpts{}, api.ErrValue)
		}
	}
	for _, name := range []string{"", " SIZE", "SIZE ", "SIZ", "SIZES", "\u017fIZE", "\u017fize", "SMTPUTF", "NOTIFY", "ORCPT", "X", "BODY=", "EnvId2", "\x00"} {
		wantMail(t, []api.Param{{Name: name, Value: "1", Has: true}}, api.MailOpts{}, api.ErrUnknown)
		wantMail(t, []api.Param{{Name: name}}, api.MailOpts{}, api.ErrUnknown)
	}
}

// P10.4, R5: the order of the errors, without the model.
func TestOrderOfMailErrors(t *testing.T) {
	for _, c := range []struct {
		l []api.Param
		e api.Errno
	}{
		{list("SIZE=x", "X"), api.ErrUnknown}, {list("SIZE=1", "SIZE=1", "X"), api.ErrUnknown}, {list("X", "X"), api.ErrUnknown}, {list("X=", "SIZE=x", "SIZE=x"), api.ErrUnknown},
		{list("SIZE=1", "size=1"), api.ErrTwice}, {list("SIZE=1", "SIZE=x"), api.ErrTwice}, {list("SIZE=1", "SIZE"), api.ErrTwice}, {list("SMTPUTF8", "SmtpUtf8"), api.ErrTwice}, {list("SMTPUTF8", "SMTPUTF8=x"), api.ErrTwice},
		{list("SIZE=x", "SIZE=1"), api.ErrValue}, {list("SIZE=1", "BODY=x", "SIZE=1"), api.ErrValue}, {list("SIZE=1", "SIZE=1", "BODY=x"), api.ErrTwice}, {list("SIZE=1", "BODY=7BIT", "RET=FULL", "body=7BIT"), api.ErrTwice}, {list("SIZE=x", "SIZE=x"), api.ErrValue},
		{slices.Repeat(list("SIZE=1"), 17), api.ErrTwice}, {slices.Repeat(list("SIZE=x"), 17), api.ErrValue}, {slices.Repeat(list("X"), 17), api.ErrUnknown}, {slices.Repeat(list("RET=FULL"), 100000), api.ErrTwice},
	} {
		wantMail(t, c.l, api.MailOpts{}, c.e)
	}
	for _, a := range mailNames() {
		for _, b := range mailNames() {
			for _, v := range mailValues() {
				for _, w := range []string{"", "1", "7bit", "full", "a@x", "=", "\xff"} {
					checkMail(t, []api.Param{{Name: a, Value: v, Has: true}, {Name: strings.ToLower(b), Value: w, Has: w != ""}})
					checkMail(t, []api.Param{{Name: b, Value: w, Has: w != ""}, {Name: a, Value: v, Has: v != ""}})
				}
			}
		}
	}
}

// orders calls f of a list in every order.
func orders(l []api.Param, f func([]api.Param)) {
	var more func(done, left []api.Param)
	more = func(done, left []api.Param) {
		if len(left) == 0 {
			f(done)
		}
		for i := range left {
			more(append(slices.Clone(done), left[i]), slices.Delete(slices.Clone(left), i, i+1))
		}
	}
	more(nil, l)
}

// inOtherCapitals are parameters as they are, and with their Names and words in small letters, and in mixed ones.
func inOtherCapitals(l []api.Param, words ...string) [][]api.Param {
	mix := func(s string) string {
		b := []byte(strings.ToLower(s))
		for i := 0; i < len(b); i += 2 {
			b[i] = capitals(string(b[i : i+1]))[0]
		}
		return string(b)
	}
	out := [][]api.Param{slices.Clone(l), slices.Clone(l), slices.Clone(l)}
	for i, it := range l {
		out[1][i].Name, out[2][i].Name = strings.ToLower(it.Name), mix(it.Name)
		if slices.Contains(words, it.Name) {
			out[1][i].Value, out[2][i].Value = strings.ToLower(it.Value), mix(it.Value)
		}
	}
	return out
}

// P10.10: in every order, and in other capitals.
func TestMailInAnyOrder(t *testing.T) {
	for _, l := range [][]api.Param{
		list("SIZE=5", "BODY=7BIT", "SMTPUTF8", "RET=FULL", "ENVID=Aa+2BZz", "AUTH=Ann@X.example"), list("BODY=BINARYMIME", "RET=HDRS", "AUTH=<>"), list("BODY=8BITMIME", "SMTPUTF8", "SIZE=0"),
	} {
		var want api.MailOpts
		for _, it := range l {
			modelSayMail(&want, it)
		}
		orders(l, func(l []api.Param) {
			for _, other := range inOtherCapitals(l, "BODY", "RET") {
				wantMail(t, other, want, api.OK)
			}
		})
	}
}

// modelOfMail is what P10.6 says.
func modelOfMail(o api.MailOpts) ([]api.Param, api.Errno) {
	wrong := o.Size < 0 || !o.HasSize && o.Size != 0 || o.Body < 0 || o.Body > 3 || o.Ret < 0 || o.Ret > 2 ||
		o.HasId && !shownText.MatchString(o.Id) || !o.HasId && o.Id != "" ||
		o.HasAuth && o.Auth != "" && !isBox(o.Auth) || !o.HasAuth && o.Auth != ""
	if wrong {
		return nil, api.ErrValue
	}
	var l []api.Param
	if o.HasSize {
		l = append(l, p("SIZE="+strconv.FormatInt(o.Size, 10)))
	}
	if o.Body > 0 {
		l = append(l, p("BODY="+[]string{"7BIT", "8BITMIME", "BINARYMIME"}[o.Body-1]))
	}
	if o.Wide {
		l = append(l, api.Param{Name: "SMTPUTF8"})
	}
	if o.Ret > 0 {
		l = append(l, p("RET="+[]string{"FULL", "HDRS"}[o.Ret-1]))
	}
	if o.HasId {
		l = append(l, p("ENVID="+modelXtext(o.Id)))
	}
	if o.HasAuth && o.Auth == "" {
		l = append(l, p("AUTH=<>"))
	} else if o.HasAuth {
		l = append(l, p("AUTH="+modelXtext(o.Auth)))
	}
	return l, api.OK
}

// checkOfMail holds OfMail against the model, and what it tells against P10.9.
func checkOfMail(t *testing.T, o api.MailOpts) {
	t.Helper()
	l, e := modelOfMail(o)
	wantOfMail(t, o, l, e)
	if e != api.OK {
		return
	}
	wantMail(t, l, o, api.OK)
	s, e := param.Print(l)
	if e != api.OK {
		t.Errorf("Print of what OfMail(%v) tells: %d", o, e)
	}
	wantParse(t, s, false, l...)
	wantParse(t, s, true, l...)
}

// P10.6, P10.9, R8: every field at its edges and one beyond, and fields that are not zero where Has is false.
func TestOfMail(t *testing.T) {
	sizes := []int64{0, 1, 7, math.MaxInt64, -1, math.MinInt64}
	bodies := []int{0, 1, 2, 3, 4, -1, math.MaxInt, math.MinInt, 1 << 32}
	rets := []int{0, 1, 2, 3, -1, math.MaxInt, math.MinInt, 1 << 32}
	ids := []string{"", "a", "a b", " ", "+=", "<>", "~", "\t", "\x7f", "\x1f", "é", "a\n", "\xff"}
	auths := []string{"", "a@x", "\"a b\"@x", "a+b=c@x.example", "a@[1.2.3.4]", "<>", "a", " ", "é@x", "a@x ", "<a@x>", "\xff"}
	both := []bool{false, true}
	for _, hasSize := range both {
		for _, size := range sizes {
			for _, wide := range both {
				for _, body := range bodies {
					for _, ret := range rets {
						checkOfMail(t, api.MailOpts{HasSize: hasSize, Size: size, Wide: wide, Body: body, Ret: ret})
					}
				}
			}
		}
	}
	for _, hasId := range both {
		for _, id := range ids {
			for _, hasAuth := range both {
				for _, auth := range auths {
					for _, rest := range []api.MailOpts{{}, {HasSize: true, Size: 9, Wide: true, Body: 3, Ret: 2}, {Size: 1}, {Body: 4}, {Ret: 3}} {
						rest.HasId, rest.Id, rest.HasAuth, rest.Auth = hasId, id, hasAuth, auth
						checkOfMail(t, rest)
					}
				}
			}
		}
	}
	for i := range 256 {
		c := string([]byte{byte(i)})
		for _, s := range []string{c, "a" + c, c + "@x", "a@x" + c, "\"" + c + "\"@x", "\"\\" + c + "\"@x"} {
			checkOfMail(t, api.MailOpts{HasId: true, Id: s})
			checkOfMail(t, api.MailOpts{HasAuth: true, Auth: s})
			checkOfMail(t, api.MailOpts{Id: s})
			checkOfMail(t, api.MailOpts{Auth: s})
		}
	}
}

// P10.6, without the model.
func TestOfMailInItsOrder(t *testing.T) {
	wantOfMail(t, api.MailOpts{}, nil, api.OK)
	o := api.MailOpts{HasSize: true, Size: math.MaxInt64, Body: api.Body8, Wide: true, Ret: api.RetHead, HasId: true, Id: "a b+c", HasAuth: true, Auth: "\"a b\"@x"}
	wantOfMail(t, o, list("SIZE=9223372036854775807", "BODY=8BITMIME", "SMTPUTF8", "RET=HDRS", "ENVID=a+20b+2Bc", "AUTH=\"a+20b\"@x"), api.OK)
	wantOfMail(t, api.MailOpts{HasSize: true, Body: api.Body7, Ret: api.RetFull, HasAuth: true}, list("SIZE=0", "BODY=7BIT", "RET=FULL", "AUTH=<>"), api.OK)
	wantOfMail(t, api.MailOpts{Body: api.BodyBinary}, list("BODY=BINARYMIME"), api.OK)
	for _, o := range []api.MailOpts{{Size: 1}, {HasSize: true, Size: -1}, {Size: -1}, {Body: 4}, {Body: -1}, {Ret: 3}, {Ret: -1}, {HasId: true}, {Id: "a"}, {Id: "\t"}, {HasId: true, Id: "\t"}, {HasId: true, Id: "é"}, {Auth: "a@x"}, {Auth: "<>"}, {HasAuth: true, Auth: "<>"}, {HasAuth: true, Auth: "a"}, {HasAuth: true, Auth: "é@x"}} {
		wantOfMail(t, o, nil, api.ErrValue)
	}
}

// P10.4, P10.6, P10.9: at random.
func TestMailAtRandom(t *testing.T) {
	r := rand.New(rand.NewSource(12))
	values := mailValues()
	names := append(mailNames(), "size", "Body", "smtputf8", "rEt", "EnvID", "auth")
	for range 50000 {
		var l []api.Param
		for range r.Intn(7) {
			it := api.Param{Name: names[r.Intn(len(names))], Value: values[r.Intn(len(values))], Has: r.Intn(8) > 0}
			if strings.EqualFold(it.Name, "SMTPUTF8") && r.Intn(4) > 0 {
				it.Value, it.Has = "", false
			}
			l = append(l, it)
		}
		checkMail(t, l)
	}
}
