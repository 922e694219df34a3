package regs_test

import (
	"strings"
	"testing"

	"rootstock/api"
	"rootstock/regs"
	"rootstock/sets"
)

func TestParse(t *testing.T) {
	a, b, c := of("a"), of("b"), of("c")
	for text, want := range map[string]api.Reg{
		"ab*": cat(a, star(b)), "(ab)*": star(cat(a, b)), "a+?": maybe(plus(a)), "a(b)c": cat(a, b, c), "a**": star(star(a)),
		"a|": alt(a, empty), "||": alt(empty, empty, empty), "|": alt(empty, empty), "|a": alt(empty, a), "()": empty, "": empty, "(())": empty, "()()": cat(empty, empty), "()*": star(empty), "(|)": alt(empty, empty),
		"[a-c].": cat(of("abc"), dot), `\.`: of("."), `\n`: of("\n"), "[]": of(""), "[^]": whole, `[^\n]`: dot, ".": dot, "[.]": of("."), "[*+?|()]": of("*+?|()"),
		"a": a, "ab": cat(a, b), "a|b": alt(a, b), "a|b|c": alt(a, b, c), "ab|c": alt(cat(a, b), c), "a|bc": alt(a, cat(b, c)), "(a|b)c": cat(alt(a, b), c), "a(b|c)": cat(a, alt(b, c)), "a|b*": alt(a, star(b)), "(a|b)*": star(alt(a, b)),
		"(ab)c": cat(cat(a, b), c), "a(bc)": cat(a, cat(b, c)), "(a|b)|c": alt(alt(a, b), c), "a|(b|c)": alt(a, alt(b, c)), "(a)": a, "((a))": a, "(a)*": star(a), "(a*)*": star(star(a)), "(a*)": star(a), "(ab)": cat(a, b), "(a)(b)": cat(a, b), "((a)|(b))": alt(a, b),
		"a?": maybe(a), "a+": plus(a), "a*": star(a), "a*+?": maybe(plus(star(a))), "a?+*": star(plus(maybe(a))), "a*b+c?": cat(star(a), plus(b), maybe(c)), "[ab]*": star(of("ab")), ".*": star(dot), `\**`: star(of("*")), `\\*`: star(of(`\`)),
		"^": of("^"), "-": of("-"), "a-b": cat(a, of("-"), b), "^a": cat(of("^"), a), "\n": of("\n"), "\t": of("\t"), "\x00": of("\x00"), "\xff": of("\xff"), "\u00e9": cat(of("\xc3"), of("\xa9")), "ntr": cat(of("n"), of("t"), of("r")), "a{2}": cat(a, of("{"), of("2"), of("}")),
		`[\]]`: of("]"), `[\\]`: of(`\`), `[\]\[]`: of("[]"), `[a\]]b`: cat(of("a]"), b), `[\--\]]`: in(sets.Range('-', ']')), `[^\^]`: in(sets.Not(sets.Of("^"))), "[a-a]": a, "[a-cb-d]": of("abcd"), "[(]": of("("), "([)])": of(")"), "[|]": of("|"), "[a](b)": cat(a, b),
		`\(\)`: cat(of("("), of(")")), `a\|b`: cat(a, of("|"), b), `(\))`: of(")"), `\\n`: cat(of(`\`), of("n")), `\nn`: cat(of("\n"), of("n")),
	} {
		if r, at, e := regs.Parse(text); !same(r, want) || at != 0 || e != api.OK {
			t.Errorf("%q: %v, %d, %v", text, r, at, e)
		}
	}
}

func TestParseOfWhatIsNone(t *testing.T) {
	for text, want := range map[string]int{
		"*": 0, "(": 1, "(a": 2, "a)": 1, "]": 0, `\x`: 1, "[b-a]": 3, "[a": 2,
		"+": 0, "?": 0, "+a": 0, ")": 0, "(*": 1, "(*)": 1, "|*": 1, "a|+b": 2, "()|?": 3, "a(|+)": 3, "()*)": 3, "a*)": 2, "())": 2, "((a)": 4, "(()": 3, "(a|": 3, "((": 2, "a]": 1, "a*]": 2, "(]": 1, "[]]": 2, "[a]]": 3, "a)(": 1, ")(": 0, "]*": 0,
		`\`: 1, `a\`: 2, `(\`: 2, `\a`: 1, `\^`: 1, `\-`: 1, `\0`: 1, `\ `: 1, "\\\n": 1, "\\\xff": 1, `\N`: 1, `\\\`: 3, `\.\x`: 3, `(\x)`: 2,
		"[": 1, "[^": 2, "[a-": 3, "[a-b": 4, "[a-]": 3, "[-a]": 1, "[-": 1, "[^-": 2, "[^^]": 2, "[a^]": 2, "[^a^]": 3, "[[": 1, "[[]": 1, "[a[": 2, "[a-[": 3, "[a-^]": 3, "[a--]": 3, "[a-b-c]": 4, "[a-b-": 4, `[a-\n]`: 4, "[--a]": 1,
		`[\`: 2, `[\x]`: 2, `[a\`: 3, `[a\x`: 3, `[a-\`: 4, `[a-\x]`: 4, `[z-\]]`: 4, `[b-\n`: 4, `[b-\-]`: 4, `[b-\]`: 4, `[b-\x]`: 4, `[\]-\[]`: 5, `[\]-a-`: 5, `[\]-[`: 4, `[\]-A]`: 4, `[a\.]`: 3, `[\*]`: 2, `[\]`: 3, "[b-a": 3, "[b-a[[[": 3, "[ab-az]": 4, "[a-bd-c]": 6,
		"[\xff-\xfe]": 3, "[\x80-\x7f]": 3, "ab[c](d|[b-a]": 11, "(a)[": 4, "x[^\xff": 4,
	} {
		if r, at, e := regs.Parse(text); !same(r, api.Reg{}) || at != want || e != api.ErrForm {
			t.Errorf("%q: %v, %d (not %d), %v", text, r, at, want, e)
		}
	}
}

func TestHowEachByteIsWritten(t *testing.T) {
	for n := range 256 {
		b := string([]byte{byte(n)})
		bare, behind := !strings.Contains(`.*+?|()[]\`, b), strings.Contains(`.*+?|()[]\`, b)
		means := b
		if i := strings.Index("ntr", b); i >= 0 {
			behind, means = true, "\n\t\r"[i:i+1]
		}
		if r, at, e := regs.Parse(`\` + b); behind && !(same(r, of(means)) && at == 0 && e == api.OK) || !behind && !(same(r, api.Reg{}) && at == 1 && e == api.ErrForm) {
			t.Errorf("a backslash and %q: %v, %d, %v", b, r, at, e)
		}
		if r, at, e := regs.Parse("x" + b + "y"); bare && !(same(r, cat(of("x"), of(b), of("y"))) && at == 0 && e == api.OK) {
			t.Errorf("%q: %v, %d, %v", b, r, at, e)
		}
		for _, class := range []string{"[" + b + "]", `[\` + b + "]", "[" + b + "-\xff]", "[^\x00-" + b + "]", "[a-" + b + "]", `[\t-\` + b + "]", `[a-\` + b + "]"} {
			hold(t, class)
		}
	}
}

// hold holds what Parse tells of a text against what the chapter's words say of it; it tells whether the text is a pattern's.
func hold(t *testing.T, text string) bool {
	t.Helper()
	r, at, e := regs.Parse(text)
	if place := stray(text); place >= 0 {
		if !same(r, api.Reg{}) || at != place || e != api.ErrForm {
			t.Errorf("%q: %v, %d, %v; stray is %d", text, r, at, e, place)
		}
		return false
	}
	if want := meant(text); !same(r, want) || at != 0 || e != api.OK {
		t.Errorf("%q: %v, %d, %v; meant is %v", text, r, at, e, want)
	}
	return true
}

func TestParseOfAllSmallTexts(t *testing.T) {
	for _, x := range []struct {
		ahead, bytes, behind string
		n                    int
	}{
		{"", `ab*?|()[]\^-.n+`, "", 4}, {"", "a|()*", "", 7}, {"[", `ab]\^-n[`, "", 5}, {"[", "bd-\\\n", "]", 5}, {"[ab-", `ac]\n-*|`, "]", 4}, {`(\`, `\ntrx)].`, ")", 4}, {"a|([^", `\^-]bn`, "])*", 4},
	} {
		count := 0
		for _, text := range texts(x.n, x.bytes) {
			if hold(t, x.ahead+text+x.behind) {
				count++
			}
		}
		if count < 50 {
			t.Errorf("%q, %q: %d patterns", x.ahead, x.bytes, count)
		}
	}
}

func TestParseOfMixedTexts(t *testing.T) {
	d := dice(1)
	count := 0
	for range 30000 {
		text := d.text(d.roll(40), `aaabbbbc\n\n|*?+()()()[][]^-.`)
		if at := stray(text); at > 0 && d.roll(2) == 0 {
			// What stands ahead of a stray byte comes further, with the brackets closed.
			text = text[:at]
			text += strings.Repeat(")", max(0, strings.Count(text, "(")-strings.Count(text, ")")))
		}
		if hold(t, text) {
			count++
		}
	}
	if count < 5000 {
		t.Errorf("%d patterns", count)
	}
}

func TestParseOfLongTexts(t *testing.T) {
	for _, n := range []int{255, 256} {
		if r, at, e := regs.Parse(strings.Repeat("a", n)); !same(r, cat(times(n, of("a"))...)) || at != 0 || e != api.OK {
			t.Errorf("%d: %v, %d, %v", n, r, at, e)
		}
		if r, at, e := regs.Parse(strings.Repeat("|", n)); !same(r, alt(times(n+1, empty)...)) || at != 0 || e != api.OK {
			t.Errorf("%d: %v, %d, %v", n, r, at, e)
		}
		if r, at, e := regs.Parse(strings.Repeat("(", n)); !same(r, api.Reg{}) || at != n || e != api.ErrForm {
			t.Errorf("%d: %v, %d, %v", n, r, at, e)
		}
		if r, at, e := regs.Parse(strings.Repeat("a", n-1) + "*"); !same(r, cat(append(times(n-2, of("a")), star(of("a")))...)) || at != 0 || e != api.OK {
			t.Errorf("%d: %v, %d, %v", n, r, at, e)
		}
		if r, at, e := regs.Parse("[" + strings.Repeat("a", n-1)); !same(r, api.Reg{}) || at != n || e != api.ErrForm {
			t.Errorf("%d: %v, %d, %v", n, r, at, e)
		}
	}
	if r, at, e := regs.Parse("[" + strings.Repeat("ab", 127) + "]"); !same(r, of("ab")) || at != 0 || e != api.OK {
		t.Errorf("%v, %d, %v", r, at, e)
	}
	for _, n := range []int{257, 258, 512, 1 << 20} {
		for _, b := range []string{"a", "(", "*", "]", `\`, "|", "["} {
			if r, at, e := regs.Parse(strings.Repeat(b, n)); !same(r, api.Reg{}) || at != 0 || e != api.ErrLong {
				t.Errorf("%q, %d: %v, %d, %v", b, n, r, at, e)
			}
		}
	}
}

func TestParseOfDeepTexts(t *testing.T) {
	a := of("a")
	for i, x := range []struct {
		text string
		want api.Reg
	}{
		{"a" + strings.Repeat("*", 15), down(15, api.RegStar, a)}, {"a" + strings.Repeat("?", 15), down(15, api.RegMaybe, a)}, {"((a)" + strings.Repeat("+", 15) + ")", down(15, api.RegPlus, a)},
		// Brackets alone make nothing deeper.
		{strings.Repeat("(", 128) + strings.Repeat(")", 128), empty}, {strings.Repeat("(", 120) + "a*" + strings.Repeat(")", 120), star(a)}, {strings.Repeat("(", 127) + "a" + strings.Repeat(")", 127), a},
		{"ba" + strings.Repeat("*", 14), cat(of("b"), down(14, api.RegStar, a))}, {"a" + strings.Repeat("*", 14) + "|b", alt(down(14, api.RegStar, a), of("b"))},
	} {
		if r, at, e := regs.Parse(x.text); !same(r, x.want) || at != 0 || e != api.OK {
			t.Errorf("%d: %v, %d, %v", i, r, at, e)
		}
	}
	nest := func(n int) string {
		return strings.Repeat("(", n) + "a" + strings.Repeat("b)", n)
	}
	if r, at, e := regs.Parse(nest(15)); !same(r, meant(nest(15))) || at != 0 || e != api.OK {
		t.Errorf("%v, %d, %v", r, at, e)
	}
	for _, text := range []string{
		"a" + strings.Repeat("*", 16), "a" + strings.Repeat("*", 17), "a" + strings.Repeat("*", 255), "()" + strings.Repeat("+?", 8), nest(16), nest(17), nest(80), "ba" + strings.Repeat("*", 15), "a" + strings.Repeat("*", 15) + "|b", "b|a" + strings.Repeat("*", 15), "(ba" + strings.Repeat("*", 14) + ")?", strings.Repeat("(|", 16) + strings.Repeat(")", 16),
	} {
		if r, at, e := regs.Parse(text); !same(r, api.Reg{}) || at != 0 || e != api.ErrDeep {
			t.Errorf("%q: %v, %d, %v", text, r, at, e)
		}
	}
	// What is no pattern comes ahead of what is too deep.
	for _, text := range []string{"a" + strings.Repeat("*", 16) + ")", "a" + strings.Repeat("*", 100) + "(", "(a" + strings.Repeat("*", 20), nest(20) + "[b-a]"} {
		if r, at, e := regs.Parse(text); !same(r, api.Reg{}) || at != stray(text) || e != api.ErrForm {
			t.Errorf("%q: %v, %d, %v", text, r, at, e)
		}
	}
}

func TestParseHandsOutMemoryOfItsOwn(t *testing.T) {
	const text = "(ab)(ab)*|(c|d|e)+|()x"
	r, _, _ := regs.Parse(text)
	was := copied(r)
	var spoil func(r api.Reg)
	spoil = func(r api.Reg) {
		for i := range r.Parts {
			_ = append(r.Parts[:i:cap(r.Parts)], none, none)
			spoil(r.Parts[i])
			r.Parts[i] = none
		}
	}
	other, _, _ := regs.Parse(text)
	spoil(other.Parts[0])
	if !same(api.Reg{Parts: other.Parts[1:]}, api.Reg{Parts: was.Parts[1:]}) {
		t.Errorf("%v", other)
	}
	spoil(other)
	if again, _, _ := regs.Parse(text); !same(again, was) || !same(r, was) {
		t.Errorf("%v, %v", again, r)
	}
}
