package query_test

import (
	"math/rand"
	"strings"
	"testing"

	"hindsight/api"
	"hindsight/query"
	"hindsight/sample"
)

func of(kind, n int, args ...api.Ask) api.Ask { return api.Ask{Kind: kind, N: n, Args: args} }

// same queries, whether lists without elements are nil or not.
func same(p, q api.Ask) bool {
	if p.Kind != q.Kind || p.N != q.N || len(p.Args) != len(q.Args) {
		return false
	}
	for i := range p.Args {
		if !same(p.Args[i], q.Args[i]) {
			return false
		}
	}
	return true
}

// expectText: a query is printed so, and what is printed is parsed to it.
func expectText(t *testing.T, q api.Ask, want string) {
	t.Helper()
	if s, e := query.Print(q); s != want || e != api.OK {
		t.Errorf("Print(%v): %q %d, not %q", q, s, e, want)
	}
	expectQuery(t, want, q)
}

func expectQuery(t *testing.T, s string, want api.Ask) {
	t.Helper()
	if q, at, e := query.Parse(s); !same(q, want) || at != 0 || e != api.OK {
		t.Errorf("Parse(%q): %v %d %d, not %v", s, q, at, e, want)
	}
}

func expectWrong(t *testing.T, s string, at int, why api.Errno) {
	t.Helper()
	if q, a, e := query.Parse(s); !same(q, api.Ask{}) || a != at || e != why {
		t.Errorf("Parse(%.80q): %v %d %d, not %d %d", s, q, a, e, at, why)
	}
}

func TestM2Texts(t *testing.T) {
	a, b := leaf(), of(api.AskSame, -3)
	for _, row := range []struct {
		q api.Ask
		s string
	}{
		{of(api.AskStep, -1), "step any"}, {of(api.AskStep, 0), "step 0"}, {of(api.AskStep, 9999999), "step 9999999"},
		{of(api.AskWrite, -1), "write any"}, {of(api.AskWrite, 12), "write 12"},
		{of(api.AskCall, -1), "call any"}, {of(api.AskCall, 5), "call 5"},
		{a, "print"},
		{of(api.AskLess, 0), "less 0"}, {of(api.AskLess, -1), "less -1"}, {of(api.AskLess, 9999999), "less 9999999"}, {of(api.AskLess, -9999999), "less -9999999"},
		{of(api.AskSame, 0), "same 0"}, {of(api.AskSame, -1), "same -1"}, {of(api.AskSame, 70), "same 70"}, {b, "same -3"},
		{of(api.AskNot, 0, a), "not print"}, {of(api.AskPrev, 0, a), "prev print"}, {of(api.AskOnce, 0, a), "once print"}, {of(api.AskAll, 0, a), "all print"},
		{of(api.AskSoon, 0, a), "soon 0 print"}, {of(api.AskSoon, 4000, b), "soon 4000 same -3"},
		{of(api.AskAnd, 0, a, b), "(print and same -3)"}, {of(api.AskOr, 0, a, b), "(print or same -3)"}, {of(api.AskSince, 0, b, a), "(same -3 since print)"},
		{of(api.AskNot, 0, of(api.AskAnd, 0, of(api.AskOr, 0, a, b), of(api.AskSoon, 2, b))), "not ((print or same -3) and soon 2 same -3)"},
		{of(api.AskSince, 0, of(api.AskPrev, 0, of(api.AskAll, 0, a)), of(api.AskSince, 0, b, a)), "(prev all print since (same -3 since print))"},
		{of(api.AskSoon, 7, of(api.AskSoon, 8, of(api.AskOnce, 0, of(api.AskCall, -1)))), "soon 7 soon 8 once call any"},
	} {
		expectText(t, row.q, row.s)
	}
}

func TestM2Samples(t *testing.T) {
	r := rand.New(rand.NewSource(2))
	gaps := []string{" ", "  ", "\t", "\n", "#\n", "# not print) -\n \t", " #####\n"}
	for range 3000 {
		q := sample.Ask(r.Intn)
		s, _ := query.Print(q)
		expectText(t, q, s)
		text := gaps[r.Intn(len(gaps))]
		for _, w := range words(s) {
			text += w + gaps[r.Intn(len(gaps))]
		}
		expectQuery(t, text+"# end", q)
	}
}

// words of a text that has no remarks.
func words(s string) []string {
	for _, sign := range []string{"(", ")", "-"} {
		s = strings.ReplaceAll(s, sign, " "+sign+" ")
	}
	return strings.Fields(s)
}

func TestM2Gaps(t *testing.T) {
	minus := of(api.AskLess, -5)
	for _, s := range []string{"less -5", "less-5", "less - 5", "less\n-#5\n5", "\t less -\t5 "} {
		expectQuery(t, s, minus)
	}
	pair := of(api.AskAnd, 0, of(api.AskNot, 0, leaf()), minus)
	for _, s := range []string{"(not print and less-5)", "( not print and less -5 )", "(not\nprint\tand#and\nless-5)#"} {
		expectQuery(t, s, pair)
	}
	// words that are not parted are one
	expectWrong(t, "notprint", 0, api.ErrForm)
	expectWrong(t, "less5", 0, api.ErrForm)
	expectWrong(t, "stepany", 0, api.ErrForm)
	expectWrong(t, "(printand print)", 1, api.ErrForm)
}

// TestM2Places: an error is told at the first token that can't stand there; at the text's end, if more must come.
func TestM2Places(t *testing.T) {
	for _, row := range []struct {
		s  string
		at int
	}{
		{"", 0}, {"   ", 3}, {"# print", 7}, {"\n", 1},
		{"any", 0}, {"and", 0}, {"5", 0}, {"-5", 0}, {")", 0}, {"()", 1}, {"x", 0}, {"  prints", 2}, {"==", 0},
		{"print print", 6}, {"print )", 6}, {"print 5", 6}, {"print any", 6}, {"print and print", 6}, {"print -", 6}, {"print;", 5},
		{"step", 4}, {"step ", 5}, {"step -1", 5}, {"step - 1", 5}, {"step print", 5}, {"step (", 5}, {"step any any", 9}, {"step 1 2", 7}, {"step any 2", 9},
		{"write", 5}, {"write -1", 6}, {"write any print", 10}, {"call -0", 5}, {"call none", 5}, {"call 1 (", 7},
		{"less", 4}, {"less any", 5}, {"less -", 6}, {"less - ", 7}, {"less -0", 6}, {"less --5", 6}, {"less -any", 6}, {"less 5 -", 7}, {"less print", 5}, {"less (", 5}, {"less +5", 5},
		{"same", 4}, {"same any", 5}, {"same -0", 6}, {"same - 0", 7}, {"same -0 5", 6}, {"same -5 5", 8},
		{"not", 3}, {"not ", 4}, {"not)", 3}, {"not 5", 4}, {"not any", 4}, {"not not", 7}, {"not print print", 10},
		{"prev", 4}, {"once", 4}, {"all", 3}, {"all any", 4}, {"all 3 print", 4}, {"prev 1 print", 5}, {"once -1", 5},
		{"soon", 4}, {"soon 3", 6}, {"soon print", 5}, {"soon any print", 5}, {"soon -1 print", 5}, {"soon 3 4", 7}, {"soon 3 any", 7}, {"soon (print)", 5}, {"soon 3 print 3", 13},
		{"(", 1}, {"( ", 2}, {"(print", 6}, {"(print ", 7}, {"(print)", 6}, {"(print not", 7}, {"(print print)", 7}, {"(print xor print)", 7}, {"(print and", 10}, {"(print and)", 10}, {"(print and print", 16}, {"(print and print # )", 20},
		{"(print and print))", 17}, {"(print and print) print", 18}, {"(print and print and print)", 17}, {"(and print)", 1}, {"(print or or print)", 10}, {"(print since since)", 13}, {"((print and print))", 18}, {"(less -3 and step -3)", 18},
		{"(not print or (print))", 20}, {"not (print or prev)", 18},
	} {
		expectWrong(t, row.s, row.at, api.ErrForm)
	}
}

// TestM2Scan: what is wrong with tokens is told ahead of all else, wherever it is.
func TestM2Scan(t *testing.T) {
	for _, row := range []struct {
		s   string
		at  int
		why api.Errno
	}{
		{"write 007", 6, api.ErrForm}, {"write 12345678", 6, api.ErrMany}, {"less -10000000", 6, api.ErrMany}, {"soon 00 print", 5, api.ErrForm},
		{"Print", 0, api.ErrForm}, {"print!", 5, api.ErrForm}, {"print \r", 6, api.ErrForm}, {"\x00", 0, api.ErrForm}, {"é", 0, api.ErrForm},
		{"abcdefghijklm", 0, api.ErrMany}, {"print print 00", 12, api.ErrForm}, {") ) ) 12345678", 6, api.ErrMany}, {"soon 4001 print $", 16, api.ErrForm},
		{strings.Repeat("not ", 70) + "$", 280, api.ErrForm},
		{strings.Repeat(" ", 6001), 0, api.ErrMany}, {strings.Repeat("$", 6001), 0, api.ErrMany},
		{strings.Repeat(" ", 6000), 6000, api.ErrForm},
		{strings.Repeat("$", 6000), 0, api.ErrForm},
	} {
		expectWrong(t, row.s, row.at, row.why)
	}
	expectQuery(t, strings.Repeat(" ", 5995)+"print", leaf())
	expectWrong(t, strings.Repeat(" ", 5996)+"print", 0, api.ErrMany)
}

// TestM2Check: what Check says is told at 0, and behind all that is wrong with the form.
func TestM2Check(t *testing.T) {
	expectQuery(t, strings.Repeat("not ", 14)+"print", ofMany(14))
	expectWrong(t, strings.Repeat("not ", 15)+"print", 0, api.ErrMany)
	expectWrong(t, "  "+strings.Repeat("all ", 15)+"print", 0, api.ErrMany)
	expectWrong(t, strings.Repeat("not ", 15), 60, api.ErrForm)
	expectWrong(t, strings.Repeat("not ", 15)+"print print", 66, api.ErrForm)
	expectWrong(t, "soon 4001 print", 0, api.ErrRange)
	expectWrong(t, "  not soon 9999999 print", 0, api.ErrRange)
	expectWrong(t, "soon 4001 print print", 16, api.ErrForm)
	expectWrong(t, "soon 4001", 9, api.ErrForm)
	expectWrong(t, strings.Repeat("soon 4001 ", 15)+"print", 0, api.ErrMany)
	eight := "print"
	for range 8 {
		eight = "(" + eight + " since step any)"
	}
	expectWrong(t, eight, 0, api.ErrMany)
}

// ofMany: print in so many nots.
func ofMany(nots int) api.Ask {
	q := leaf()
	for range nots {
		q = of(api.AskNot, 0, q)
	}
	return q
}

// TestM2Deep: a bracket that stands in 60 others can't stand there, nor can what follows a word that does.
func TestM2Deep(t *testing.T) {
	repeat := strings.Repeat
	open, closed := repeat("(", 60), repeat(" or print)", 60)
	for _, row := range []struct {
		s   string
		at  int
		why api.Errno
	}{
		// brackets
		{open, 60, api.ErrForm}, {open + "(", 60, api.ErrForm}, {open + "((", 60, api.ErrForm}, {open + ")", 60, api.ErrForm},
		{open + "print" + closed, 0, api.ErrMany},
		{"(print or " + repeat("(", 59) + "print" + repeat(" or print)", 59) + ")", 0, api.ErrMany},
		{"(print or " + open + "print" + closed + ")", 10 + 59, api.ErrForm},
		// those that are closed don't stand around what follows
		{"(" + repeat("(", 59) + "print" + repeat(" or print)", 59) + " or " + repeat("(", 59) + "print" + repeat(" or print)", 59) + ")", 0, api.ErrMany},
		// words
		{repeat("not ", 60) + "print", 0, api.ErrMany}, {repeat("not ", 60), 240, api.ErrForm}, {repeat("not ", 61), 244, api.ErrForm},
		{repeat("not ", 61) + "print", 244, api.ErrForm}, {repeat("not ", 62), 244, api.ErrForm}, {repeat("not ", 60) + "5", 240, api.ErrForm}, {repeat("not ", 61) + "5", 244, api.ErrForm},
		{repeat("prev ", 60) + "print", 0, api.ErrMany}, {repeat("prev ", 61) + "print", 305, api.ErrForm},
		{repeat("once ", 60) + "print", 0, api.ErrMany}, {repeat("once ", 61) + "print", 305, api.ErrForm},
		{repeat("all ", 60) + "print", 0, api.ErrMany}, {repeat("all ", 61) + "print", 244, api.ErrForm},
		{repeat("soon 3 ", 60) + "print", 0, api.ErrMany}, {repeat("soon 3 ", 61) + "print", 427, api.ErrForm},
		{repeat("soon 3 ", 60) + "soon print", 425, api.ErrForm}, {repeat("soon 3 ", 60) + "soon", 424, api.ErrForm},
		{repeat("not all ", 30) + "print", 0, api.ErrMany}, {repeat("not all ", 30) + "prev print", 245, api.ErrForm},
		{repeat("not ", 60) + "step", 244, api.ErrForm}, {repeat("not ", 60) + "less -3", 0, api.ErrMany},
		// a word that ended does not stand around what follows
		{"(" + repeat("not ", 59) + "print and " + repeat("not ", 59) + "print)", 0, api.ErrMany},
		{"(" + repeat("not ", 59) + "print and " + repeat("not ", 60) + "print)", 1 + 236 + 10 + 240, api.ErrForm},
		// both together
		{repeat("not ", 60) + "(print and print)", 240, api.ErrForm}, {repeat("not ", 59) + "(print and print)", 0, api.ErrMany},
		{open + "not print" + closed, 64, api.ErrForm}, {repeat("(", 59) + "not print" + repeat(" or print)", 59), 0, api.ErrMany},
		{repeat("not (", 30) + "print" + repeat(" or print)", 30), 0, api.ErrMany}, {repeat("not (", 30) + "(", 150, api.ErrForm}, {repeat("not (", 30) + "all print", 154, api.ErrForm},
		{repeat("(", 30) + repeat("not ", 31) + "print", 154, api.ErrForm}, {repeat("not ", 30) + repeat("(", 31), 150, api.ErrForm},
		// as deep as a text can be
		{repeat("(", 6000), 60, api.ErrForm}, {repeat("not ", 1500), 244, api.ErrForm},
	} {
		expectWrong(t, row.s, row.at, row.why)
	}
}
