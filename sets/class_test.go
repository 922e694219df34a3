package sets_test

import (
	"strings"
	"testing"

	"rootstock/api"
	"rootstock/sets"
)

func TestPrint(t *testing.T) {
	for _, x := range []struct {
		s    api.Set
		want string
	}{
		{of("abc"), "[a-c]"}, {api.Set{}, "[]"}, {span(0, 255), "[^]"}, {made(func(n int) bool { return n != 10 }), `[^\n]`},
		{of("ab"), "[ab]"}, {of("a-\n"), `[\n\-a]`}, {of("a"), "[a]"}, {of("abcd"), "[a-d]"}, {of("acdfghx"), "[acdf-hx]"},
		{of("\n"), `[\n]`}, {of("\t"), `[\t]`}, {of("\r"), `[\r]`}, {of("\t\n"), `[\t\n]`}, {span(9, 13), `[\t-\r]`}, {span(10, 12), "[\\n-\x0c]"},
		{of("\\"), `[\\]`}, {of("["), `[\[]`}, {of("]"), `[\]]`}, {of("^"), `[\^]`}, {of("-"), `[\-]`}, {of(`\[]^-`), `[\-\[-\^]`},
		{of("[\\"), `[\[\\]`}, {of("[\\]"), `[\[-\]]`}, {of("ZY["), `[Y-\[]`}, {of("^_`"), "[\\^-`]"}, {of("+,-"), `[+-\-]`}, {of("-./"), `[\--/]`}, {of("-."), `[\-.]`},
		{of("ntr"), "[nrt]"}, {of("(.*+?|) "), "[ (-+.?|]"},
		{span(0, 0), "[\x00]"}, {span(255, 255), "[\xff]"}, {span(254, 255), "[\xfe\xff]"}, {span(253, 255), "[\xfd-\xff]"}, {span(0, 1), "[\x00\x01]"}, {span(0, 2), "[\x00-\x02]"},
		{span(63, 64), "[?@]"}, {span(62, 65), "[>-A]"}, {span(127, 128), "[\x7f\x80]"}, {span(126, 129), "[~-\x81]"}, {span(191, 193), "[\xbf-\xc1]"},
		{span(0, 126), "[\x00-~]"}, {span(0, 127), "[\x00-\x7f]"}, {span(0, 128), "[^\x81-\xff]"}, {span(128, 255), "[\x80-\xff]"}, {span(127, 255), "[^\x00-~]"},
		{made(func(n int) bool { return n != 0 }), "[^\x00]"}, {made(func(n int) bool { return n != 255 }), "[^\xff]"}, {made(func(n int) bool { return n != '^' }), `[^\^]`},
		{made(func(n int) bool { return n != 'a' && n != 'b' }), "[^ab]"}, {made(func(n int) bool { return n < 'a' || n > 'c' }), "[^a-c]"},
	} {
		if text := sets.Print(x.s); text != x.want {
			t.Errorf("%q: %q", x.want, text)
		}
	}
}

func TestPrintOfManySets(t *testing.T) {
	l := samples()
	for a := 0; a < 256; a++ {
		for _, more := range []int{0, 1, 2, 3, 62, 63, 64, 126, 127, 128, 129} {
			s := span(a, a+more)
			f := flagged(s)
			l = append(l, s, made(func(n int) bool { return !f[n] }), made(func(n int) bool { return f[n] && n != a+1 }))
		}
	}
	for _, s := range l {
		if text := sets.Print(s); text != printed(s) {
			t.Errorf("%x: %q, not %q", s, text, printed(s))
		}
	}
}

func TestParse(t *testing.T) {
	for _, x := range []struct {
		text string
		want api.Set
	}{
		{"[a-cx]", of("abcx")}, {"[^]", span(0, 255)}, {`[\]\\]`, of(`]\`)}, {"[a-a]", of("a")}, {"[]", api.Set{}},
		{"[xa]", of("ax")}, {"[aaa]", of("a")}, {"[a-cb-d]", of("abcd")}, {"[c-ea-b]", of("abcde")}, {"[abc]", of("abc")},
		{"[\n]", of("\n")}, {`[\n]`, of("\n")}, {"[\t\r]", of("\t\r")}, {`[\t\r]`, of("\t\r")}, {`[\t-\r]`, span(9, 13)}, {"[\t-\r]", span(9, 13)}, {"[ntr]", of("ntr")}, {`[\nn]`, of("\nn")},
		{`[\-]`, of("-")}, {`[a\-z]`, of("-az")}, {`[\--a]`, span('-', 'a')}, {`[+-\-]`, of("+,-")}, {`[\--\-]`, of("-")}, {`[\^]`, of("^")}, {`[a\^]`, of("^a")}, {`[\[-\]]`, of(`[\]`)}, {`[\\-\\]`, of(`\`)},
		{"[^a]", made(func(n int) bool { return n != 'a' })}, {`[^\^]`, made(func(n int) bool { return n != '^' })}, {"[^\x00-\xff]", api.Set{}}, {"[\x00-\xff]", span(0, 255)},
		{"[^a-c]", made(func(n int) bool { return n < 'a' || n > 'c' })}, {"[^\n]", made(func(n int) bool { return n != 10 })},
		{"[.*+?|() ]", of(".*+?|() ")}, {"[\x00\x3f\x40\x7f\x80\xff]", of("\x00\x3f\x40\x7f\x80\xff")}, {"[\u00e9]", of("\xc3\xa9")}, {"[\x80-\xfe]", span(128, 254)},
		{"[" + strings.Repeat("ab-c", 1<<18) + "]", of("abc")}, {"[" + strings.Repeat("\x00-\xff", 1000) + "]", span(0, 255)},
	} {
		if s, e := sets.Parse(x.text); s != x.want || e != api.OK {
			t.Errorf("%.20q: %x, %v", x.text, s, e)
		}
	}
}

func TestParseOfWhatIsNoClass(t *testing.T) {
	for _, text := range []string{
		"", "[", "[a", "[b-a]", "[a-]", "[-a]", `[\x]`, "[a]]", "[a^]", "x",
		"]", "^", "-", `\`, "a", "[]]", "[[]", "[[]]", "[-]", "[--]", "[---]", "[a--b]", "[a-b-c]", "[a-b-]", "[a--]", "[^^]", "[^-]", "[^-a]", "[^a-]", "[^", "[^a", "^]", "[a^b]", "[^a^]",
		`[\`, `[\]`, `[\\`, `[a\`, `[a\]`, `[a-\`, `[a-\]`, `[a-\-]`, `[a-\x]`, `[\a]`, `[\0]`, `[\.]`, `[\N]`, `[\ ]`, "[\\\n]", "[\\\xff]", "[\\\x00]", `\[a]`, `[\]-\[]`, `[n-\n]`, `[\r-\t]`,
		"[a]b", "a[b]", " [a]", "[a] ", "[a]\n", "[a][b]", "[]\x00", "[a-", "[^a-", "[a-b", "[a-]]", "[a-[]", "[[-a]", "[]-a]", "[^-a]", "[a-^]", "[^]]", "[^[]",
		"[\xff-\x00]", "[\x80-\x7f]", "[b-a", "[ab-ac]", "[b-aa-c]", strings.Repeat("[", 1<<20), "[" + strings.Repeat("a", 1<<20),
	} {
		if s, e := sets.Parse(text); s != (api.Set{}) || e != api.ErrForm {
			t.Errorf("%.20q: %x, %v", text, s, e)
		}
	}
}

func TestHowEachByteIsWritten(t *testing.T) {
	for n := 0; n < 256; n++ {
		b := every()[n : n+1]
		for _, x := range []struct {
			text string
			ok   bool
			want api.Set
		}{
			{"[" + b + "]", !strings.Contains(`\[]^-`, b), of(b)},
			{"[" + b + "-" + b + "]", !strings.Contains(`\[]^-`, b), of(b)},
			{`[\` + b + "]", strings.Contains(`\[]^-`, b), of(b)},
			{"[" + spelled(n) + "]", true, of(b)},
			{"[" + spelled(n) + "-\xff]", true, span(n, 255)},
			{"[\x00-" + spelled(n) + "]", true, span(0, n)},
		} {
			switch x.text {
			case "[^]":
				x.ok, x.want = true, span(0, 255)
			case `[\n]`, `[\t]`, `[\r]`:
				x.ok, x.want = true, of(map[string]string{"n": "\n", "t": "\t", "r": "\r"}[x.text[2:3]])
			}
			s, e := sets.Parse(x.text)
			if x.ok && (s != x.want || e != api.OK) || !x.ok && (s != api.Set{} || e != api.ErrForm) {
				t.Errorf("%q: %x, %v", x.text, s, e)
			}
		}
	}
}

func TestParseOfAllSmallTexts(t *testing.T) {
	classes := 0
	for i, text := range texts(5) {
		l := []string{"[" + text + "]", "[^" + text + "]", "[" + text}
		if i%3 == 0 {
			l = append(l, text)
		}
		for _, text := range l {
			want, ok := said(text)
			wantError := api.ErrForm
			if ok {
				wantError = api.OK
				classes++
			}
			if s, e := sets.Parse(text); s != want || e != wantError {
				t.Errorf("%q: %x, %v", text, s, e)
			}
		}
	}
	if classes < 1000 {
		t.Errorf("%d classes", classes)
	}
}
