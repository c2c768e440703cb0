package field_test

import (
	"math"
	"math/rand"
	"strings"
	"testing"

	"posthorn/api"
	"posthorn/field"
)

// P16.4: all short texts.
func TestUnfoldOfAllShortTexts(t *testing.T) {
	eachText([]string{"\r", "\n", " ", "\t", "a"}, 7, func(s string) { agreeUnfold(t, s) })
	eachText([]string{"\r\n", "\r", "\n", " ", "\t", "a"}, 6, func(s string) { agreeUnfold(t, s) })
}

// P16.4: line ends ahead of a blank, ahead of anything else and at the end, bare ones among them.
func TestUnfold(t *testing.T) {
	for _, c := range [][2]string{
		{"", ""}, {"x", "x"}, {"/", "/"}, {"/ ", " "}, {"/\t", "\t"}, {"x/ ", "x "}, {"x/ y", "x y"}, {"x/\ty/ z", "x\ty z"}, {"x/y", "x/y"}, {"x/", "x/"}, {"x/\v", "x/\v"}, {"x/\x00", "x/\x00"}, {"x/\xa0", "x/\xa0"},
		{"// x", "/ x"}, {"/ /\t/", " \t/"}, {"/  / ", "   "}, {"x\n y", "x\n y"}, {"x\r y", "x\r y"}, {"x\n\r y", "x\n\r y"}, {"\r/ ", "\r "}, {"/\n ", "/\n "}, {"\r/\n x", "\r/\n x"}, {"\n/ x", "\n x"}, {" /", " /"}, {"\r", "\r"}, {"\n", "\n"}, {"\xff/ \xfe", "\xff \xfe"},
	} {
		if got := field.Unfold(wire(c[0])); got != wire(c[1]) {
			t.Fatalf("Unfold(%q): %q, want %q", wire(c[0]), got, wire(c[1]))
		}
	}
	for b := range 256 {
		c := string([]byte{byte(b)})
		for _, s := range []string{"x\r\n" + c, "x\r\n" + c + "y", "x\r" + c + " ", "x" + c + "\n ", c + "\r\n ", "\r\n " + c} {
			agreeUnfold(t, s)
		}
	}
	agreeUnfold(t, strings.Repeat("\r\n x", 100000))
	agreeUnfold(t, strings.Repeat("\r\n", 100000)+" ")
}

// P16.5: all short texts, names of one byte and of more, all bounds about them.
func TestFoldOfAllShortTexts(t *testing.T) {
	eachText([]string{" ", "\t", "a", "b\xe9"}, 7, func(s string) {
		for most := 1; most <= 12; most++ {
			agreeFold(t, "T", s, most)
			agreeFold(t, "From", s, most)
		}
	})
	eachText([]string{" ", "a", "\r", "\n", "\r\n"}, 5, func(s string) {
		for _, most := range []int{-1, 0, 1, 4, 998, 999} {
			agreeFold(t, "A", s, most)
			agreeFold(t, "A:", s, most)
		}
	})
}

// P16.5: which error is told where several hold.
func TestWrongFold(t *testing.T) {
	right, wrong := []string{"A", "x-Y", "!~", xs(997)}, []string{"", ":", "A:", " A", "A B", "\x7f", "\xe9", "A\r\n"}
	mosts := []int{0, -1, 999, 1000, math.MinInt, math.MaxInt}
	for _, most := range mosts {
		for _, name := range right {
			for _, s := range []string{"", "a", "a b", xs(2000)} {
				wantFold(t, name, s, most, "", api.ErrArg)
			}
		}
	}
	for _, most := range append(mosts, 1, 9, 997, 998) {
		for _, name := range wrong {
			wantFold(t, name, "a b", most, "", api.ErrField)
			wantFold(t, name, "a\nb", most, "", api.ErrField)
		}
		for _, s := range []string{"\r", "\n", "\r\n", "a\r\n b", "a\rb", "a b\n", "\n a"} {
			wantFold(t, "A", s, most, "", api.ErrField)
		}
	}
	for b := range 256 {
		c := string([]byte{byte(b)})
		agreeFold(t, "A"+c, "a b", 2)
		agreeFold(t, "A", "a "+c+" b", 2)
		agreeFold(t, "A", c, 2)
	}
}

// P16.5: joints at, ahead of and behind the bound, in the first row and in later ones.
func TestFoldAtTheBound(t *testing.T) {
	for _, c := range []struct {
		s    string
		most int
		want string
	}{
		{" aaa bbb", 11, " aaa bbb"}, {" aaa bbb", 10, " aaa/ bbb"}, {" aaa bbb", 7, " aaa/ bbb"}, {" aaa bbb", 6, " aaa/ bbb"}, {" aaa bbb", 1, " aaa/ bbb"},
		{"a b c d e", 12, "a b c d e"}, {"a b c d e", 11, "a b c d/ e"}, {"a b c d e", 10, "a b c d/ e"}, {"a b c d e", 9, "a b c/ d e"}, {"a b c d e", 6, "a b/ c d e"}, {"a b c d e", 5, "a/ b c/ d e"}, {"a b c d e", 4, "a/ b c/ d e"}, {"a b c d e", 3, "a/ b/ c/ d/ e"}, {"a b c d e", 2, "a/ b/ c/ d/ e"}, {"a b c d e", 1, "a/ b/ c/ d/ e"},
		{"x aaaaaa bb cc", 5, "x/ aaaaaa/ bb/ cc"}, {"x aaaaaa bb cc", 6, "x/ aaaaaa/ bb cc"}, {"x aaaaaa bb cc", 7, "x/ aaaaaa/ bb cc"}, {"xxxxxxxx aa bb cc", 6, "xxxxxxxx/ aa bb/ cc"},
		{"", 1, ""}, {" ", 1, " "}, {"\t  \t", 1, "\t  \t"}, {"a", 1, "a"}, {" a", 1, " a"}, {"  a", 1, "  a"}, {"a ", 1, "a "}, {"a   ", 1, "a   "}, {" a b ", 1, " a/ b "}, {"a b   ", 4, "a/ b   "}, {"  a  b  ", 1, "  a/  b  "},
		{"a \tb\t c", 1, "a/ \tb/\t c"}, {"a\tb c", 5, "a/\tb c"}, {"a\u00a0b", 1, "a\u00a0b"}, {"a\vb", 1, "a\vb"}, {"a  b", 2, "a/  b"}, {"a  b  c  ", 5, "a/  b/  c  "}, {"a  b  c  ", 6, "a/  b/  c  "}, {"a  b  c  ", 8, "a  b/  c  "},
	} {
		wantFold(t, "To", c.s, c.most, wire(c.want), api.OK)
		agreeFold(t, "To", c.s, c.most)
	}
}

// P16.5: rows of 997, 998 and 999 bytes that nothing can be done about, the first, between others, and the last.
func TestFoldOfLongRows(t *testing.T) {
	for _, most := range []int{1, 2, 500, 996, 997, 998} {
		for n, want := range map[int]api.Errno{996: api.OK, 997: api.OK, 998: api.OK, 999: api.ErrField, 1000: api.ErrField, 3000: api.ErrField} {
			wantFold(t, "A", xs(n-2), most, xs(n-2), want)
			wantFold(t, xs(n-1), "", most, "", want)
			wantFold(t, "A", strings.Repeat(" ", n-2), most, strings.Repeat(" ", n-2), want)
			for _, s := range []string{"a " + xs(n-1), "a " + xs(n-1) + " b", xs(n-2) + " b", "a b" + strings.Repeat(" ", n-2), "a " + xs(n-1) + " " + xs(n-1), "\t" + xs(n-3) + "\tb"} {
				if _, e := agreeFold(t, "A", s, most); e != want && want != api.OK {
					t.Fatalf("Fold(%s, %d): %d, want %d", short(s), most, e, want)
				}
			}
		}
	}
	many := strings.Repeat(" word", 2000)
	for _, most := range []int{1, 78, 997, 998} {
		agreeFold(t, "Keywords", many, most)
	}
	wantFold(t, xs(997), " a b", 998, wire(" a/ b"), api.ErrField)
	wantFold(t, xs(996), "a b", 998, wire("a/ b"), api.OK)
	wantFold(t, xs(996), "a b", 1, wire("a/ b"), api.OK)
	wantFold(t, xs(2000), "a b", 1, "", api.ErrField)
}

// anyText is a text of words and blanks.
func anyText(random *rand.Rand) string {
	parts := []string{" ", " ", "  ", "\t", " \t ", "a", "bc", "word,", "\xe9\xff", "\x00"}
	var s strings.Builder
	for range random.Intn(40) {
		s.WriteString(parts[random.Intn(len(parts))])
	}
	if random.Intn(4) == 0 {
		s.WriteString(xs(990 + random.Intn(12)))
	}
	return s.String()
}

// P16.5: any texts.
func TestAnyFold(t *testing.T) {
	random := rand.New(rand.NewSource(165))
	told := map[api.Errno]int{}
	for range 20000 {
		_, e := agreeFold(t, xs(1+random.Intn(12)), anyText(random), 1+random.Intn(40))
		told[e]++
		agreeFold(t, "Name", anyText(random)+" "+anyText(random), 960+random.Intn(40))
	}
	if told[api.OK] < 10000 || told[api.ErrField] < 1000 {
		t.Fatalf("not all kinds came often: %v", told)
	}
}
