package token_test

import (
	"math/rand"
	"slices"
	"strings"
	"testing"

	"hindsight/api"
	"hindsight/token"
)

func name(at int, s string) api.Token {
	return api.Token{Kind: api.TokenName, At: at, Text: s}
}

func number(at int, s string) api.Token {
	return api.Token{Kind: api.TokenNumber, At: at, Text: s}
}

func sign(at int, s string) api.Token {
	return api.Token{Kind: api.TokenSign, At: at, Text: s}
}

func TestA1Tokens(t *testing.T) {
	for _, c := range []struct {
		text string
		want []api.Token
	}{
		{"", nil},
		{" \t\n", nil},
		{"#", nil},
		{"# all of it, \r \xff and ! too", nil},
		{"x", []api.Token{name(0, "x")}},
		{"\t a\n b ", []api.Token{name(2, "a"), name(5, "b")}},
		{"a#b\nc#d", []api.Token{name(0, "a"), name(4, "c")}},
		{"##\n#\n7", []api.Token{number(5, "7")}},
		{"a1b2 z9", []api.Token{name(0, "a1b2"), name(5, "z9")}},
		{"12ab", []api.Token{number(0, "12"), name(2, "ab")}},
		{"0 0a 10 100", []api.Token{number(0, "0"), number(2, "0"), name(3, "a"), number(5, "10"), number(8, "100")}},
		{"-5", []api.Token{sign(0, "-"), number(1, "5")}},
		{"= == === ====", []api.Token{sign(0, "="), sign(2, "=="), sign(5, "=="), sign(7, "="), sign(9, "=="), sign(11, "==")}},
		{"=#\n=", []api.Token{sign(0, "="), sign(3, "=")}},
		{"x=read;", []api.Token{name(0, "x"), sign(1, "="), name(2, "read"), sign(6, ";")}},
		{"{}()[];,=+-*/%<", []api.Token{sign(0, "{"), sign(1, "}"), sign(2, "("), sign(3, ")"), sign(4, "["), sign(5, "]"), sign(6, ";"), sign(7, ","), sign(8, "="), sign(9, "+"), sign(10, "-"), sign(11, "*"), sign(12, "/"), sign(13, "%"), sign(14, "<")}},
		{"abcdefghijkl 9999999", []api.Token{name(0, "abcdefghijkl"), number(13, "9999999")}},
		{"abcdefghi123", []api.Token{name(0, "abcdefghi123")}},
	} {
		l, at, e := token.Scan(c.text)
		if !slices.Equal(l, c.want) || at != 0 || e != api.OK {
			t.Errorf("Scan(%q) = %v %d %d; want %v 0 0", c.text, l, at, e, c.want)
		}
	}
}

func TestA1Errors(t *testing.T) {
	for _, c := range []struct {
		text string
		at   int
		want api.Errno
	}{
		{"A", 0, api.ErrForm},
		{"aB", 1, api.ErrForm},
		{"a_b", 1, api.ErrForm},
		{"a \r", 2, api.ErrForm},
		{"a\vb", 1, api.ErrForm},
		{"a\x00", 1, api.ErrForm},
		{"1 \xc3\xa4", 2, api.ErrForm},
		{"a > b", 2, api.ErrForm},
		{"a != b", 2, api.ErrForm},
		{"x # !\n !", 7, api.ErrForm},
		{"abcdefghijklm", 0, api.ErrMany},
		{" abcdefghijkl1", 1, api.ErrMany},
		{"x 12345678", 2, api.ErrMany},
		{"10000000", 0, api.ErrMany},
		{"00", 0, api.ErrForm},
		{"x 01", 2, api.ErrForm},
		{"0123456", 0, api.ErrForm},
		{"00000000", 0, api.ErrMany},
		{"01234567", 0, api.ErrMany},
		{"! abcdefghijklm", 0, api.ErrForm},
		{"abcdefghijklm !", 0, api.ErrMany},
		{"01 12345678", 0, api.ErrForm},
		{"12345678 01", 0, api.ErrMany},
		{"abcdefghijklm!", 0, api.ErrMany},
	} {
		l, at, e := token.Scan(c.text)
		if len(l) != 0 || at != c.at || e != c.want {
			t.Errorf("Scan(%q) = %v %d %d; want none %d %d", c.text, l, at, e, c.at, c.want)
		}
	}
}

func TestA1EveryByte(t *testing.T) {
	for b := range 256 {
		s := string([]byte{byte(b)})
		var want []api.Token
		e := api.OK
		switch {
		case strings.Contains(" \t\n#", s):
		case strings.Contains("abcdefghijklmnopqrstuvwxyz", s):
			want = []api.Token{name(0, s)}
		case strings.Contains("0123456789", s):
			want = []api.Token{number(0, s)}
		case strings.Contains("{}()[];,=+-*/%<", s):
			want = []api.Token{sign(0, s)}
		default:
			e = api.ErrForm
		}
		l, at, got := token.Scan(s)
		if !slices.Equal(l, want) || at != 0 || got != e {
			t.Errorf("Scan(%q) = %v %d %d; want %v 0 %d", s, l, at, got, want, e)
		}
	}
}

func TestA1Length(t *testing.T) {
	for _, c := range []struct {
		text string
		n    int
		at   int
		want api.Errno
	}{
		{strings.Repeat(";", api.MaxText), api.MaxText, 0, api.OK},
		{strings.Repeat(";", api.MaxText+1), 0, 0, api.ErrMany},
		{strings.Repeat(" ", api.MaxText+1), 0, 0, api.ErrMany},
		{"#" + strings.Repeat("!", api.MaxText), 0, 0, api.ErrMany},
		{strings.Repeat(";", api.MaxText-1) + "!", 0, api.MaxText - 1, api.ErrForm},
		{"!" + strings.Repeat(" ", api.MaxText), 0, 0, api.ErrMany},
		{strings.Repeat("a", api.MaxText), 0, 0, api.ErrMany},
	} {
		l, at, e := token.Scan(c.text)
		if len(l) != c.n || at != c.at || e != c.want {
			t.Errorf("Scan(%.10q..), %d bytes: %d tokens %d %d; want %d %d %d", c.text, len(c.text), len(l), at, e, c.n, c.at, c.want)
		}
	}
}

func TestA2Join(t *testing.T) {
	for _, c := range []struct {
		l    []api.Token
		want string
	}{
		{nil, ""},
		{[]api.Token{}, ""},
		{[]api.Token{name(0, "a")}, "a"},
		{[]api.Token{name(9, "if"), number(-3, "0"), sign(9, "==")}, "if 0 =="},
		{[]api.Token{sign(0, "="), sign(0, "=")}, "= ="},
		{[]api.Token{number(0, "1"), number(0, "2")}, "1 2"},
		{[]api.Token{name(0, "abcdefghijkl"), number(0, "9999999")}, "abcdefghijkl 9999999"},
	} {
		s, e := token.Join(c.l)
		if s != c.want || e != api.OK {
			t.Errorf("Join(%v) = %q %d; want %q 0", c.l, s, e, c.want)
		}
	}
}

func TestA2WrongTokens(t *testing.T) {
	for _, wrong := range []api.Token{
		{}, name(0, ""), number(0, ""), sign(0, ""),
		{Kind: 0, Text: "a"}, {Kind: 4, Text: "a"}, {Kind: -1, Text: ";"},
		number(0, "a"), sign(0, "a"), name(0, "1"), sign(0, "1"), name(0, ";"), number(0, ";"),
		name(0, "A"), name(0, "a b"), name(0, " a"), name(0, "a "), name(0, "a#"), name(0, "#\na"), name(0, "a;"),
		name(0, "abcdefghijklm"), name(0, "\xff"), name(0, "#"), name(0, " "),
		number(0, "01"), number(0, "00"), number(0, "12345678"), number(0, "-1"), number(0, "1a"),
		sign(0, "="+"=="), sign(0, "= ="), sign(0, "!"), sign(0, "()"),
		name(0, strings.Repeat("a", api.MaxText+1)), sign(0, ";"+strings.Repeat(" ", api.MaxText)),
	} {
		for _, l := range [][]api.Token{{wrong}, {wrong, name(0, "a")}, {name(0, "a"), wrong}} {
			s, e := token.Join(l)
			if s != "" || e != api.ErrForm {
				t.Errorf("Join(%.80v) = %.20q %d; want an empty text and ErrForm", l, s, e)
			}
		}
	}
}

func TestA2Length(t *testing.T) {
	most := slices.Repeat([]api.Token{name(0, "a")}, api.MaxText/2-1)
	full := append(slices.Clone(most), sign(0, "=="))
	s, e := token.Join(full)
	if len(s) != api.MaxText || e != api.OK {
		t.Errorf("a text of MaxText: %d bytes, %d", len(s), e)
	}
	over := append(slices.Clone(most), name(0, "abc"))
	s, e = token.Join(over)
	if s != "" || e != api.ErrMany {
		t.Errorf("a text of MaxText + 1: %d bytes, %d", len(s), e)
	}
	s, e = token.Join(append(over, name(0, "!")))
	if s != "" || e != api.ErrForm {
		t.Errorf("a wrong token behind too many: %d bytes, %d; ErrForm is named first", len(s), e)
	}
}

func randomToken(r *rand.Rand) api.Token {
	const letters = "abcdefghijklmnopqrstuvwxyz0123456789"
	at := r.Intn(100) - 50
	switch r.Intn(3) {
	case 0:
		b := []byte{letters[r.Intn(26)]}
		for range r.Intn(api.MaxName) {
			b = append(b, letters[r.Intn(len(letters))])
		}
		return name(at, string(b))
	case 1:
		b := []byte{byte('0' + r.Intn(10))}
		for range r.Intn(api.MaxDigits) {
			if b[0] != '0' {
				b = append(b, byte('0'+r.Intn(10)))
			}
		}
		return number(at, string(b))
	}
	signs := []string{"{", "}", "(", ")", "[", "]", ";", ",", "=", "+", "-", "*", "/", "%", "<", "=="}
	return sign(at, signs[r.Intn(len(signs))])
}

func TestA3JoinedIsScannedAsItWas(t *testing.T) {
	r := rand.New(rand.NewSource(3))
	for range 300 {
		var l []api.Token
		for range r.Intn(60) {
			l = append(l, randomToken(r))
		}
		s, e := token.Join(l)
		if e != api.OK {
			t.Fatalf("Join(%v): %d", l, e)
		}
		got, at, e := token.Scan(s)
		if e != api.OK || at != 0 || len(got) != len(l) {
			t.Fatalf("Scan(%q): %d tokens %d %d; want %d", s, len(got), at, e, len(l))
		}
		next := 0
		for i := range l {
			if got[i].Kind != l[i].Kind || got[i].Text != l[i].Text || got[i].At != next {
				t.Fatalf("Scan(%q): token %d is %v; want %v at %d", s, i, got[i], l[i], next)
			}
			next += len(l[i].Text) + 1
		}
	}
}

func TestP1AnyText(t *testing.T) {
	r := rand.New(rand.NewSource(1))
	const some = "az09 \t\n#=;(!A\xff\x00"
	for range 3000 {
		b := make([]byte, r.Intn(30))
		for i := range b {
			b[i] = some[r.Intn(len(some))]
		}
		s := string(b)
		l, at, e := token.Scan(s)
		if e != api.OK && (len(l) != 0 || at < 0 || at >= len(s)) || e == api.OK && at != 0 {
			t.Fatalf("Scan(%q) = %v %d %d", s, l, at, e)
		}
		again, to, f := token.Scan(s)
		if !slices.Equal(l, again) || at != to || e != f {
			t.Fatalf("Scan(%q) answers otherwise the second time", s)
		}
		for _, x := range l {
			if s[x.At:x.At+len(x.Text)] != x.Text {
				t.Fatalf("Scan(%q): %v is not there", s, x)
			}
		}
	}
}

func TestP2HandedInIsOnlyRead(t *testing.T) {
	room := []api.Token{name(7, "a"), sign(8, ";"), name(-1, "spare"), {}}
	before := slices.Clone(room)
	token.Join(room[:2])
	token.Join(room)
	if !slices.Equal(room, before) {
		t.Errorf("Join made %v of %v", room, before)
	}
}
