package regs_test

import (
	"strings"
	"testing"

	"rootstock/api"
	"rootstock/regs"
	"rootstock/sets"
)

func TestPrint(t *testing.T) {
	a, b, c := of("a"), of("b"), of("c")
	for _, x := range []struct {
		r    api.Reg
		want string
	}{
		{cat(alt(a, b), empty), "(a|b)()"}, {star(empty), "()*"}, {none, "[]"}, {alt(cat(a, b), empty), "ab|"},
		{empty, ""}, {of(""), "[]"}, {dot, "."}, {whole, "[^]"}, {a, "a"}, {of("ab"), "[ab]"}, {of("abc"), "[a-c]"}, {in(sets.Not(sets.Of("a"))), "[^a]"}, {in(sets.Not(sets.Of("\r"))), `[^\r]`}, {in(sets.Not(sets.Of("\n\r"))), `[^\n\r]`}, {of("^"), "^"}, {of("-"), "-"}, {of("^-"), `[\-\^]`}, {of(".*"), "[*.]"}, {of("\n\t\r"), `[\t\n\r]`},
		{cat(a), "a"}, {alt(a), "a"}, {cat(a, b, c), "abc"}, {alt(a, b, c), "a|b|c"}, {star(a), "a*"}, {plus(a), "a+"}, {maybe(a), "a?"}, {star(plus(maybe(a))), "a?+*"}, {star(of("ab")), "[ab]*"}, {star(none), "[]*"}, {plus(dot), ".+"}, {maybe(of("?")), `\??`},
		{cat(cat(a, b), c), "(ab)c"}, {cat(a, cat(b, c)), "a(bc)"}, {cat(cat(a)), "(a)"}, {cat(alt(a)), "(a)"}, {cat(empty), "()"}, {cat(empty, empty), "()()"}, {cat(a, star(b), plus(c), maybe(a)), "ab*c+a?"}, {cat(none, a), "[]a"}, {cat(star(cat(a, b)), c), "(ab)*c"},
		{alt(alt(a, b), c), "(a|b)|c"}, {alt(a, alt(b, c)), "a|(b|c)"}, {alt(alt(a)), "(a)"}, {alt(cat(a)), "a"}, {alt(empty), ""}, {alt(empty, empty), "|"}, {alt(empty, a), "|a"}, {alt(empty, empty, empty), "||"}, {alt(star(a), none), "a*|[]"}, {alt(cat(a, alt(b, c)), star(alt(a, b))), "a(b|c)|(a|b)*"}, {alt(cat(empty)), "()"},
		{star(cat(a)), "(a)*"}, {star(alt(a)), "(a)*"}, {star(alt(empty)), "()*"}, {plus(cat(a, b)), "(ab)+"}, {plus(alt(a, b)), "(a|b)+"}, {plus(empty), "()+"}, {maybe(cat(a, b)), "(ab)?"}, {maybe(alt(a, b)), "(a|b)?"}, {maybe(empty), "()?"}, {star(alt(a, empty)), "(a|)*"},
	} {
		if s, e := regs.Print(x.r); s != x.want || e != api.OK {
			t.Errorf("%q: %q, %v", x.want, s, e)
		}
	}
}

func TestPrintOfEachByte(t *testing.T) {
	for n := range 256 {
		b := string([]byte{byte(n)})
		want := b
		switch {
		case n == 10:
			want = `\n`
		case n == 9:
			want = `\t`
		case n == 13:
			want = `\r`
		case strings.Contains(`.*+?|()[]\`, b):
			want = `\` + b
		}
		if s, e := regs.Print(of(b)); s != want || e != api.OK {
			t.Errorf("%q: %q, %v", b, s, e)
		}
		but := sets.Not(sets.Of(b))
		if want = sets.Print(but); n == 10 {
			want = "."
		}
		if s, e := regs.Print(in(but)); s != want || e != api.OK {
			t.Errorf("all but %q: %q, %v", b, s, e)
		}
	}
}

func TestPrintOfManyPatterns(t *testing.T) {
	l := above(small())
	d := dice(2)
	for range 3000 {
		l = append(l, d.pattern(1+d.roll(20)))
	}
	long := 0
	for _, r := range l {
		want, e := told(r), regs.Check(r)
		if e == api.OK && len(want) > api.MaxPattern {
			e = api.ErrLong
		}
		if e != api.OK {
			want = ""
			long++
		}
		if s, f := regs.Print(r); s != want || f != e {
			t.Errorf("%q, %v: %q, %v", want, e, s, f)
		}
	}
	if long == 0 || long > 1500 {
		t.Errorf("%d have no text", long)
	}
}

func TestPrintOfLongTexts(t *testing.T) {
	a := of("a")
	for i, x := range []struct {
		r    api.Reg
		want string
	}{
		{cat(times(256, a)...), strings.Repeat("a", 256)}, {alt(times(257, empty)...), strings.Repeat("|", 256)}, {cat(times(128, of("\n"))...), strings.Repeat(`\n`, 128)}, {cat(times(128, empty)...), strings.Repeat("()", 128)},
		{star(cat(times(253, a)...)), "(" + strings.Repeat("a", 253) + ")*"}, {cat(append(times(254, a), star(a))...), strings.Repeat("a", 254) + "a*"}, {cat(append(times(251, a), of("bcd"))...), strings.Repeat("a", 251) + "[b-d]"},
	} {
		if s, e := regs.Print(x.r); s != x.want || len(s) != 256 || e != api.OK {
			t.Errorf("%d: %q, %v", i, s, e)
		}
	}
	every := api.Reg{Kind: api.RegSet, Set: api.Set{0x5555555555555555, 0x5555555555555555, 0x5555555555555555, 0x5555555555555555}}
	for i, r := range []api.Reg{
		cat(times(257, a)...), alt(times(258, empty)...), cat(append(times(127, of("\n")), cat(a))...), cat(times(129, empty)...), cat(append(times(127, empty), star(empty))...), star(cat(times(254, a)...)), plus(cat(times(254, a)...)), cat(append(times(255, a), star(a))...), cat(append(times(252, a), of("bcd"))...),
		cat(times(511, a)...), alt(times(511, none)...), cat(times(511, every)...), cat(every, every),
	} {
		if s, e := regs.Print(r); s != "" || e != api.ErrLong {
			t.Errorf("%d: %q, %v", i, s, e)
		}
	}
}
