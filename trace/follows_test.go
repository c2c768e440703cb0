package trace_test

import (
	"bytes"
	"math/rand"
	"slices"
	"strings"
	"sync"
	"testing"
	"unsafe"

	"posthorn/api"
	"posthorn/field"
	"posthorn/trace"
)

// P18.7: what is printed is read; what is read may be, and is read as the same once more. (Every agreeCheck and agreeField asks for it, too.)
func TestThereAndBack(t *testing.T) {
	random := rand.New(rand.NewSource(187))
	for range 3000 {
		x := anyTrace(random)
		f, e := trace.Print(x)
		if e != api.OK {
			continue
		}
		if field.Check(f) != api.OK {
			t.Fatalf("%q is no field", f)
		}
		back, spot := trace.Parse(f)
		again, _ := trace.Print(back)
		if !same(back, x) || spot != (api.Spot{}) || again != f {
			t.Fatalf("%+v: %q, read as %+v, %v, printed %q", x, f, back, spot, again)
		}
		// Whoever folds it otherwise, or not at all, is read alike.
		wantParse(t, field.Unfold(f.Body), x)
		if folded, e := field.Fold("Received", field.Unfold(f.Body), 78); e == api.OK {
			wantParse(t, folded.Body, x)
		}
	}
}

// P18.8: one hop more, the message at the end, and ahead of it the trace.
func TestStamped(t *testing.T) {
	random := rand.New(rand.NewSource(188))
	stamped := 0
	for range 3000 {
		x, msg := anyTrace(random), anyHeader(random)+anyBytes(random)
		n := trace.Hops([]byte(msg))
		b, e := trace.Stamp([]byte(msg), x, n+1)
		if e != api.OK {
			wantCheck(t, x, e)
			continue
		}
		stamped++
		wantHops(t, string(b), n+1)
		head, is := bytes.CutSuffix(b, []byte(msg))
		l, body, spot := field.Parse(head)
		if !is || spot != (api.Spot{}) || len(l) != 1 || body != len(head) || l[0].Name != "Received" {
			t.Fatalf("%s: %q, %d, %v", short(string(b)), l, body, spot)
		}
		wantParse(t, l[0].Body, x)
	}
	if stamped < 500 {
		t.Fatalf("only %d were stamped", stamped)
	}
}

// P18.8: a message that is stamped over and over is refused when it has that many hops.
func TestStampedOverAndOver(t *testing.T) {
	for most := range 20 {
		for _, had := range []int{0, 1, 5} {
			msg := []byte(strings.Repeat("Received: x\r\n", had) + "Subject: y\r\n\r\nReceived: z")
			for n := had; n < most; n++ {
				b, e := trace.Stamp(msg, whole(), most)
				if e != api.OK || trace.Hops(b) != n+1 || !bytes.HasSuffix(b, msg) {
					t.Fatalf("most %d, %d hops: %s, %d", most, n, short(string(b)), e)
				}
				msg = b
			}
			for range 2 {
				wantStamp(t, string(msg), whole(), most, "", api.ErrLoop)
			}
		}
	}
}

// borrowed is a text whose memory the caller still writes to.
func borrowed(b []byte) string { return unsafe.String(unsafe.SliceData(b), len(b)) }

// R3: what is handed in stays as it is, and so does the room behind it.
func TestHandedInStays(t *testing.T) {
	for _, msg := range []string{"Received:x\r\nSubject: y\r\n\r\nz", "", "received:"} {
		room := []byte(msg + "behind")
		calls := func() {
			trace.Hops(room[:len(msg)])
			for most := range 3 {
				trace.Stamp(room[:len(msg)], whole(), most)
			}
			trace.Return(room[:len(msg)], box("x", name("y"), "a"))
			trace.Return(room[:len(msg)], api.Path{})
		}
		calls()
		if string(room) != msg+"behind" {
			t.Fatalf("%q became %q", msg, room)
		}
	}
	route := []api.Host{name("c.example"), name("d.example"), name("behind")}
	kept := slices.Clone(route)
	for n := range 3 {
		x := whole()
		x.For.Route = route[:n]
		f, _ := trace.Print(x)
		trace.Check(x)
		trace.Stamp(nil, x, 1)
		trace.Return(nil, x.For)
		wantParse(t, f.Body, x)
		if !slices.Equal(route, kept) {
			t.Fatalf("the route became %v", route)
		}
	}
}

// R3: what stands behind a message's end, or a route's, is no part of it.
func TestTheRoomBehindIsNotRead(t *testing.T) {
	room := []byte("Received:\r\n\r\nReceived:")
	for n := range len(room) + 1 {
		if got := trace.Hops(room[:n]); got != modelHops(string(room[:n])) {
			t.Fatalf("Hops(%q): %d", room[:n], got)
		}
		b, e := trace.Return(room[:n], api.Path{Kind: api.PathNull})
		if e != api.OK || string(b) != "Return-Path: <>\r\n"+string(room[:n]) {
			t.Fatalf("Return(%q): %q, %d", room[:n], b, e)
		}
	}
	x := whole()
	x.For.Route = []api.Host{name("c"), name("a..b")}[:1]
	wantCheck(t, x, api.OK)
}

// R3: what is told is memory of its own: what the caller writes there no other answer shows, nor what was handed in.
func TestHandedOutIsNew(t *testing.T) {
	msg := []byte("Subject: y\r\n\r\nz")
	kept := string(msg)
	stamp := func() []byte { b, _ := trace.Stamp(msg, whole(), 1); return b }
	path := func() []byte { b, _ := trace.Return(msg, api.Path{Kind: api.PathNull}); return b }
	for _, call := range []func() []byte{stamp, path} {
		first, second := call(), call()
		want := string(second)
		b := first[:cap(first)]
		for i := range b {
			b[i] = '!'
		}
		if string(second) != want || string(call()) != want || string(msg) != kept {
			t.Fatalf("%q became %q, of %q", want, second, msg)
		}
		third := call()
		for i := range msg {
			msg[i] = '?'
		}
		if string(third) != want {
			t.Fatalf("%q became %q", want, third)
		}
		copy(msg, kept)
	}
	f := api.Field{Name: "Received", Body: "from a by b with X for <@c,@d:x@y>;" + z2000}
	first, _ := trace.Parse(f)
	second, _ := trace.Parse(f)
	clear(first.For.Route[:cap(first.For.Route)])
	if third, _ := trace.Parse(f); !same(second, third) || len(third.For.Route) != 2 || third.For.Route[0] != name("c") {
		t.Fatalf("%+v, %+v", second, third)
	}
}

// R3: texts are memory of their own, too.
func TestToldTextsAreNew(t *testing.T) {
	for _, body := range []string{wholeBody, plainBody, "from [t:a] ([t:b]) by c with X id 1 for <@a:\"x y\"@[t:z]>;" + z2000} {
		b := []byte(body)
		x, _ := trace.Parse(api.Field{Name: "Received", Body: borrowed(b)})
		clear(b)
		if want, _ := modelParse(api.Field{Name: "Received", Body: body}); !same(x, want) {
			t.Fatalf("%q is read as %+v", body, x)
		}
	}
	with, id, host := []byte("ESMTP"), []byte("17"), []byte("a.example")
	x := whole()
	x.With, x.Id, x.From, x.By, x.For = borrowed(with), borrowed(id), name(borrowed(host)), name(borrowed(host)), box(borrowed(id), name(borrowed(host)))
	want := modelPrint(x)
	f, e := trace.Print(x)
	clear(with)
	clear(id)
	clear(host)
	if f.Body != want || e != api.OK {
		t.Fatalf("%q became %q, %d", want, f.Body, e)
	}
}

// R6: no message may be nil or empty, no route likewise.
func TestNilAndEmpty(t *testing.T) {
	for _, msg := range [][]byte{nil, {}} {
		b, e := trace.Stamp(msg, whole(), 1)
		if trace.Hops(msg) != 0 || string(b) != "Received:"+wholeBody+"\r\n" || e != api.OK {
			t.Fatalf("Stamp of nothing: %q, %d", b, e)
		}
		if b, e := trace.Return(msg, api.Path{Kind: api.PathNull, Route: []api.Host{}}); string(b) != "Return-Path: <>\r\n" || e != api.OK {
			t.Fatalf("Return of nothing: %q, %d", b, e)
		}
	}
	for _, p := range []api.Path{{}, {Route: []api.Host{}}} {
		x := plain()
		x.For = p
		wantPrint(t, x, plainBody)
	}
}

// R2: calls side by side tell what they tell alone, and a call what it told before.
func TestSideBySide(t *testing.T) {
	rows := variants()
	var all sync.WaitGroup
	for i := range 8 {
		all.Go(func() {
			random := rand.New(rand.NewSource(int64(i)))
			for range 300 {
				x, msg := anyTrace(random), anyHeader(random)
				var b strings.Builder
				for _, row := range rows {
					b.WriteString(row[max(random.Intn(4*len(row))-3*len(row), 0)])
				}
				for range 2 {
					agreeCheck(t, x)
					agreeMessage(t, msg)
					agree(t, b.String())
				}
			}
		})
	}
	all.Wait()
}
