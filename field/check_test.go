package field_test

import (
	"math/rand"
	"slices"
	"strings"
	"testing"

	"posthorn/api"
	"posthorn/field"
)

// P16.2, P16.3: all short bodies, with right names and wrong ones.
func TestCheckOfAllShortBodies(t *testing.T) {
	told := map[api.Errno]int{}
	eachText([]string{"\r", "\n", " ", "\t", ":", "a"}, 6, func(s string) {
		told[agreeCheck(t, "A", s)]++
		wantCheck(t, "", s, api.ErrField)
	})
	eachText([]string{"\r\n", "\r", "\n", " ", "\t", "a\xe9"}, 6, func(s string) { told[agreeCheck(t, "ab", s)]++ })
	if told[api.OK] == 0 || told[api.ErrField] == 0 || told[api.ErrFold] == 0 {
		t.Fatalf("not all kinds came: %v", told)
	}
}

// P16.2: every byte in a name, and in a body.
func TestCheckOfEveryByte(t *testing.T) {
	for b := range 256 {
		c := string([]byte{byte(b)})
		right := api.ErrField
		if b > 32 && b < 127 && b != ':' {
			right = api.OK
		}
		for _, name := range []string{c, "a" + c, c + "a", "a" + c + "b"} {
			wantCheck(t, name, "", right)
			wantCheck(t, name, " x\r\n y", right)
		}
		for _, body := range []string{c, " " + c, c + "x", "x\r\n" + c, "x\r\n" + c + "x", "x\r\n " + c, "x\r\n \t" + c + " ", "x\r" + c, c + "\ny"} {
			agreeCheck(t, "A", body)
		}
		if b != 13 && b != 10 {
			wantCheck(t, "A", "x"+c, api.OK)
		} else {
			wantCheck(t, "A", "x"+c, api.ErrField)
		}
	}
}

// P16.2: bodies right and wrong in each way.
func TestCheckOfBodies(t *testing.T) {
	for _, c := range []struct {
		body string
		want api.Errno
	}{
		{"", api.OK}, {" ", api.OK}, {"\t \t", api.OK}, {":", api.OK}, {"\xff\x00", api.OK}, {"/ x", api.OK}, {"x/\ty", api.OK}, {"/ x/ y/\tz ", api.OK}, {" x/ \x00", api.OK}, {"x/ \v", api.OK},
		{"/", api.ErrFold}, {"/ ", api.ErrFold}, {"/\t ", api.ErrFold}, {"//", api.ErrFold}, {"/ x/", api.ErrFold}, {"/ x/ ", api.ErrFold}, {"// x", api.ErrFold}, {"/ / x", api.ErrFold}, {"/ x//\ty", api.ErrFold},
		{"/x", api.ErrFold}, {"x/A:1", api.ErrFold}, {" x/ y/z", api.ErrFold}, {"x/y/ z", api.ErrFold}, {"x/\x00 y", api.ErrFold}, {"x/\vy", api.ErrFold},
		{"\r", api.ErrField}, {"\n", api.ErrField}, {"x\r", api.ErrField}, {"x\n", api.ErrField}, {"x\ry", api.ErrField}, {"x\n y", api.ErrField}, {"x\r y", api.ErrField}, {"x/ y\r", api.ErrField}, {"x/ y\n", api.ErrField},
		{"x\r/ y", api.ErrField}, {"x/\n y", api.ErrField}, {"x\n\r y", api.ErrField}, {"\n/ x", api.ErrField}, {"/\r", api.ErrField}, {"/\n", api.ErrField},
	} {
		wantCheck(t, "A", wire(c.body), c.want)
		agreeCheck(t, "Long-Name", wire(c.body))
	}
}

// P16.2: a half of a line end, or a row that is too long, is told ahead of a wrong fold, wherever the two stand.
func TestWhichErrorOfCheck(t *testing.T) {
	folds := []string{"/", "/ ", "/x", "//", "/\t \t"}
	for _, first := range []string{"x\r", "x\nz", "\r/ z", "x/ z\n", " " + xs(998), "x/ " + xs(998), "x/\t" + xs(998)} {
		for _, fold := range folds {
			wantCheck(t, "A", wire(first+fold+"/ z"), api.ErrField)
			wantCheck(t, "A", wire("x"+fold+"/ z"+first), api.ErrField)
			wantCheck(t, "A", wire("x"+fold+"/ z"), api.ErrFold)
			agreeCheck(t, "A", wire(first+fold))
			agreeCheck(t, "A", wire(fold+first))
		}
		wantCheck(t, "A", wire("x/"+xs(999)), api.ErrField)
		wantCheck(t, "A", wire("x/"+xs(998)), api.ErrFold)
		wantCheck(t, "A", wire("x/"+strings.Repeat(" ", 999)), api.ErrField)
		wantCheck(t, "A", wire("x/"+strings.Repeat(" ", 998)), api.ErrFold)
	}
	for _, name := range []string{"", ":", "A:", "A B", " A", "A ", "\t", "\x7f", "\xe9", "A\r\n", "\r\n A", "A\r\n B"} {
		for _, body := range []string{"", "x", "x/ y", "/", "/x", "\r", xs(2000)} {
			wantCheck(t, name, wire(body), api.ErrField)
		}
	}
}

// P16.2: rows of 997, 998 and 999 bytes, the first one with the name and the colon, and at each place.
func TestCheckOfLongRows(t *testing.T) {
	for n, want := range map[int]api.Errno{996: api.OK, 997: api.OK, 998: api.OK, 999: api.ErrField, 1000: api.ErrField} {
		wantCheck(t, "A", xs(n-2), want)
		wantCheck(t, "Subject", xs(n-8), want)
		wantCheck(t, xs(n-1), "", want)
		wantCheck(t, xs(n-1), "\r\n y", want)
		wantCheck(t, xs(n-4), "yyy\r\n y", want)
		wantCheck(t, "A", strings.Repeat(" ", n-2), want)
		wantCheck(t, "A", "\r\n "+xs(n-1), want)
		wantCheck(t, "A", "x\r\n\t"+xs(n-1)+"\r\n y", want)
		wantCheck(t, "A", "x\r\n y\r\n "+xs(n-1), want)
		wantCheck(t, "A", xs(996)+"\r\n "+xs(n-1), want)
		for _, body := range []string{xs(n - 2), "\r\n " + xs(n-1), xs(n-2) + "\r\n y", "y\r\n" + strings.Repeat(" ", n)} {
			agreeCheck(t, "A", body)
		}
	}
}

// P16.3: no, one and many fields.
func TestPrint(t *testing.T) {
	for _, c := range []struct {
		l    []api.Field
		want string
	}{
		{nil, ""}, {[]api.Field{}, ""}, {fields("A", ""), "A:/"}, {fields("A", "1"), "A:1/"}, {fields("A", " 1", "b", "2/ 3", "A", " 1"), "A: 1/b:2/ 3/A: 1/"}, {fields("a", "", "b", "/ x"), "a:/b:/ x/"},
	} {
		b, e := field.Print(c.l)
		if string(b) != wire(c.want) || e != api.OK {
			t.Fatalf("Print(%q): %q, %d, want %q", c.l, b, e, wire(c.want))
		}
	}
	for _, n := range []int{2, 100, 4095, 4096, 4097, 5000} {
		agreePrint(t, slices.Repeat(fields("Ab", " x/ y"), n))
	}
}

// P16.3: too many fields come first, then the first one that is wrong.
func TestWrongPrint(t *testing.T) {
	right, wrongField, wrongFold := fields("A", "1")[0], fields("A B", "1")[0], fields("A", "1/")[0]
	for _, c := range []struct {
		l    []api.Field
		want api.Errno
	}{
		{[]api.Field{{}}, api.ErrField}, {[]api.Field{wrongField}, api.ErrField}, {[]api.Field{wrongFold}, api.ErrFold}, {[]api.Field{right, wrongFold}, api.ErrFold}, {[]api.Field{wrongFold, right}, api.ErrFold},
		{[]api.Field{right, wrongFold, wrongField}, api.ErrFold}, {[]api.Field{right, wrongField, wrongFold}, api.ErrField}, {[]api.Field{wrongFold, right, wrongField, right}, api.ErrFold}, {[]api.Field{wrongField, wrongFold}, api.ErrField},
		{slices.Repeat([]api.Field{wrongFold}, 4096), api.ErrFold}, {slices.Repeat([]api.Field{wrongFold}, 4097), api.ErrField}, {slices.Repeat([]api.Field{right}, 4097), api.ErrField},
		{append(slices.Repeat([]api.Field{right}, 4095), wrongFold), api.ErrFold}, {append(slices.Repeat([]api.Field{right}, 4096), wrongFold), api.ErrField},
	} {
		if e := agreePrint(t, c.l); e != c.want {
			t.Fatalf("%s: %d, want %d", showFields(c.l), e, c.want)
		}
	}
}

// anyFields are fields of all kinds; wrong: now and then one that may not be.
func anyFields(random *rand.Rand, wrong bool) (l []api.Field) {
	names := []string{"A", "a", "To", "Received", "!~;", "x-\"y\"", xs(997)}
	bodies := []string{"", " ", " x", "x/ y", "/\tx", "\x00\xff/ :", " a / b / c", "/ " + xs(997) + "/\t" + xs(997)}
	wrongNames := []string{"", ":", "A:", "A B", "\xe9", xs(998)}
	wrongBodies := []string{"/", "x/y", "x/ ", "x//", "\r", "x\n", "/ " + xs(998), xs(997)}
	for range random.Intn(9) {
		f := api.Field{Name: names[random.Intn(len(names))], Body: wire(bodies[random.Intn(len(bodies))])}
		if len(f.Name) > 100 && f.Body != "" {
			f.Body = wire("/") + " x"
		}
		if wrong && random.Intn(9) == 0 {
			f.Name = wrongNames[random.Intn(len(wrongNames))]
		}
		if wrong && random.Intn(9) == 0 {
			f.Body = wire(wrongBodies[random.Intn(len(wrongBodies))])
		}
		l = append(l, f)
	}
	return l
}

// P16.3: any fields.
func TestAnyPrint(t *testing.T) {
	random := rand.New(rand.NewSource(163))
	told := map[api.Errno]int{}
	for range 20000 {
		told[agreePrint(t, anyFields(random, true))]++
	}
	if told[api.OK] < 2000 || told[api.ErrField] < 2000 || told[api.ErrFold] < 2000 {
		t.Fatalf("not all kinds came often: %v", told)
	}
}

// P16.6: names in any capitals, also such as no field may have.
func TestFind(t *testing.T) {
	l := fields("Subject", "1", "to", "", "SUBJECT", "2", "Subjec", "", "Subject:", "", "", "", "sUbJeCt", "", "TO", "\xe9", "\xc3\xa9", "", "\xc3\x89", "", "a[", "", "A{", "", "Ka", "", "\u212aa", "")
	for _, c := range []struct {
		name string
		want []int
	}{
		{"Subject", []int{0, 2, 6}}, {"subject", []int{0, 2, 6}}, {"SUBJECT", []int{0, 2, 6}}, {"subjec", []int{3}}, {"subject:", []int{4}}, {"To", []int{1, 7}}, {"", []int{5}}, {"ubject", nil}, {"Subjects", nil}, {"T", nil}, {" to", nil},
		{"\xc3\xa9", []int{8}}, {"\xc3\x89", []int{9}}, {"A[", []int{10}}, {"a{", []int{11}}, {"k\x61", []int{12}}, {"kA", []int{12}}, {"\u212aA", []int{13}}, {"\u017fubject", nil}, {xs(5000), nil},
	} {
		if at := field.Find(l, c.name); !slices.Equal(at, c.want) || !slices.Equal(at, modelFind(l, c.name)) {
			t.Fatalf("Find(%q): %v, want %v", c.name, at, c.want)
		}
	}
	for _, none := range [][]api.Field{nil, {}, l[1:2]} {
		if at := field.Find(none, "Subject"); len(at) != 0 {
			t.Fatalf("Find in %v: %v", none, at)
		}
	}
	many := slices.Repeat(fields("A", "", "b", ""), 5000)
	if at := field.Find(many, "a"); len(at) != 5000 || at[0] != 0 || at[4999] != 9998 || !slices.IsSorted(at) {
		t.Fatalf("Find in many: %d", len(at))
	}
}

// P16.6: every two bytes: they are the same if they are one, or one letter.
func TestFindOfEveryByte(t *testing.T) {
	var l []api.Field
	for b := range 256 {
		l = append(l, api.Field{Name: "x" + string([]byte{byte(b)})})
	}
	for b := range 256 {
		name := "X" + string([]byte{byte(b)})
		if at := field.Find(l, name); !slices.Equal(at, modelFind(l, name)) {
			t.Fatalf("Find(%q): %v", name, at)
		}
	}
}
