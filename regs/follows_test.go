package regs_test

import (
	"testing"

	"rootstock/api"
	"rootstock/regs"
)

// alike holds that two patterns match the same ones of some texts.
func alike(t *testing.T, a, b api.Reg, texts []string) {
	t.Helper()
	for _, text := range texts {
		if is, other := matches(t, a, text), matches(t, b, text); is != other {
			t.Errorf("%q, %q, %q: %v, %v", told(a), told(b), text, is, other)
		}
	}
}

func TestParseOfPrint(t *testing.T) {
	l := above(small())
	d := dice(6)
	for range 2000 {
		l = append(l, d.pattern(1+d.roll(6)))
	}
	short := texts(3, "ab")
	for i, r := range l {
		s, e := regs.Print(r)
		if e == api.ErrLong {
			continue
		}
		back, at, f := regs.Parse(s)
		if e != api.OK || at != 0 || f != api.OK {
			t.Errorf("%q: %v, %d, %v", s, e, at, f)
			continue
		}
		alike(t, r, back, short[:4])
		if i%10 == 0 {
			alike(t, r, back, short)
			alike(t, r, back, []string{"c", "\n", "^-", "*b", d.text(9, "abc*")})
		}
	}
}

func TestParseOfPrintOfParse(t *testing.T) {
	l := append(texts(4, `ab*?|()[]\^-.n+`), texts(6, "a|()*")...)
	d := dice(7)
	for range 20000 {
		l = append(l, d.text(d.roll(12), `aab|*?()()[^-].\n`))
	}
	count := 0
	for _, text := range l {
		r, _, e := regs.Parse(text)
		if e != api.OK {
			continue
		}
		count++
		s, e := regs.Print(r)
		back, at, f := regs.Parse(s)
		if e != api.OK || !same(back, r) || at != 0 || f != api.OK {
			t.Errorf("%q: %q, %v; %v, %d, %v", text, s, e, back, at, f)
		}
	}
	if count < 5000 {
		t.Errorf("%d patterns", count)
	}
}

func TestRowsPlusAndMaybe(t *testing.T) {
	l := small()
	d := dice(8)
	for range 40 {
		l = append(l, d.pattern(4))
	}
	short := texts(4, "ab")
	for _, p := range l {
		alike(t, plus(p), cat(p, star(p)), short)
		alike(t, maybe(p), alt(p, empty), short)
	}
	for i, p := range l {
		q := l[(i*37+11)%len(l)]
		for _, text := range short {
			parted := false
			for at := 0; at <= len(text); at++ {
				parted = parted || matches(t, p, text[:at]) && matches(t, q, text[at:])
			}
			if is := matches(t, cat(p, q), text); is != parted {
				t.Errorf("%q, %q, %q: %v", told(p), told(q), text, is)
			}
		}
	}
}
