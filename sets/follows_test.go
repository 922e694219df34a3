package sets_test

import (
	"testing"

	"rootstock/api"
	"rootstock/sets"
)

func TestParseOfPrint(t *testing.T) {
	l := samples()
	for n := 0; n < 256; n++ {
		l = append(l, span(0, n), span(n, 255), span(n, n), span(n, n+2), span(n, n+127), span(n, n+128))
	}
	for share := 1; share < 8; share++ {
		l = append(l, mixed(share, 200)...)
	}
	for _, s := range l {
		text := sets.Print(s)
		if back, e := sets.Parse(text); back != s || e != api.OK {
			t.Errorf("%x, %q: %x, %v", s, text, back, e)
		}
		if meant, ok := said(text); meant != s || !ok {
			t.Errorf("%x, %q: says %x, %v", s, text, meant, ok)
		}
		if len(text) > 512 {
			t.Errorf("%x: %d bytes", s, len(text))
		}
	}
}

func TestPrintOfParse(t *testing.T) {
	told := 0
	for _, text := range texts(4) {
		for _, class := range []string{"[" + text + "]", "[^" + text + "]"} {
			s, e := sets.Parse(class)
			if e != api.OK {
				continue
			}
			told++
			again := sets.Print(s)
			if meant, ok := said(again); meant != s || !ok || len(again) > 512 {
				t.Errorf("%q: %q", class, again)
			}
			if once := sets.Print(meantBy(again)); once != again {
				t.Errorf("%q: %q, %q", class, again, once)
			}
		}
	}
	if told == 0 {
		t.Error("no class was tried")
	}
}

// meantBy is the set that Parse tells of a class.
func meantBy(class string) api.Set {
	s, _ := sets.Parse(class)
	return s
}

func TestLawsOfOneAndTwoSets(t *testing.T) {
	none, whole := api.Set{}, sets.Not(api.Set{})
	l := samples()
	for _, s := range l {
		hold(t, "not not", sets.Not(sets.Not(s)), s)
		hold(t, "s or s", sets.Union(s, s), s)
		hold(t, "s and s", sets.Meet(s, s), s)
		hold(t, "s or none", sets.Union(s, none), s)
		hold(t, "s and none", sets.Meet(s, none), none)
		hold(t, "s or all", sets.Union(s, whole), whole)
		hold(t, "s and all", sets.Meet(s, whole), s)
		hold(t, "s or not s", sets.Union(s, sets.Not(s)), whole)
		hold(t, "s and not s", sets.Meet(s, sets.Not(s)), none)
		hold(t, "of members", sets.Of(sets.Members(s)), s)
		if sets.Count(s)+sets.Count(sets.Not(s)) != 256 {
			t.Errorf("count of %x", s)
		}
		for _, u := range l {
			hold(t, "s or u", sets.Union(s, u), sets.Union(u, s))
			hold(t, "s and u", sets.Meet(s, u), sets.Meet(u, s))
			hold(t, "s or (s and u)", sets.Union(s, sets.Meet(s, u)), s)
			hold(t, "s and (s or u)", sets.Meet(s, sets.Union(s, u)), s)
			hold(t, "not (s or u)", sets.Not(sets.Union(s, u)), sets.Meet(sets.Not(s), sets.Not(u)))
			hold(t, "not (s and u)", sets.Not(sets.Meet(s, u)), sets.Union(sets.Not(s), sets.Not(u)))
			if sets.Count(sets.Union(s, u))+sets.Count(sets.Meet(s, u)) != sets.Count(s)+sets.Count(u) {
				t.Errorf("counts of %x, %x", s, u)
			}
		}
	}
}

func TestLawsOfThreeSets(t *testing.T) {
	l := samples()
	for i, s := range l {
		for j, u := range l {
			v := l[(i*7+j*3+1)%len(l)]
			hold(t, "s or u or v", sets.Union(sets.Union(s, u), v), sets.Union(s, sets.Union(u, v)))
			hold(t, "s and u and v", sets.Meet(sets.Meet(s, u), v), sets.Meet(s, sets.Meet(u, v)))
			hold(t, "s and (u or v)", sets.Meet(s, sets.Union(u, v)), sets.Union(sets.Meet(s, u), sets.Meet(s, v)))
			hold(t, "s or (u and v)", sets.Union(s, sets.Meet(u, v)), sets.Meet(sets.Union(s, u), sets.Union(s, v)))
		}
	}
}

func hold(t *testing.T, law string, a, b api.Set) {
	t.Helper()
	if a != b {
		t.Errorf("%s: %x, %x", law, a, b)
	}
}
