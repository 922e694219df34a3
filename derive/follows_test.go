package derive_test

import (
	"testing"

	"rootstock/api"
	"rootstock/derive"
)

func TestLeavesAreWhatTheRootBecomes(t *testing.T) {
	d := dice(10)
	long := 0
	for range 400 {
		g := d.large(t, 1+d.roll(api.MaxSymbols))
		high := heights(g)
		for range 8 {
			sym := d.roll(g.Symbols)
			x := d.grown(g, high, sym, d.roll(9))
			if e := derive.Fits(g, x); e != api.OK {
				t.Fatalf("Fits of %v, %v: %v", g, x, e)
			}
			row := derive.Yield(x)
			if len(row) > api.MaxRow {
				refuses(t, g, sym, row, api.ErrLong)
				continue
			}
			if len(row) > 30 {
				long++
			}
			becomes(t, g, sym, row, true)
			if sym == g.Start {
				judged(t, g, row, len(row), true)
			}
		}
	}
	if long < 50 {
		t.Errorf("only %d long rows", long)
	}
}

func TestCountIsNotNothingJustWhereDerivesIsTrue(t *testing.T) {
	d := dice(11)
	had := map[bool]int{}
	for range 300 {
		g := d.large(t, 1+d.roll(20))
		for range 5 {
			sym := d.roll(g.Symbols)
			row := d.rowOf(g, sym, api.MaxRow)
			is, _ := derive.Derives(g, sym, row)
			becomes(t, g, sym, row, is)
			had[is]++
		}
	}
	if had[true] < 300 || had[false] < 300 {
		t.Errorf("%v", had)
	}
}

func TestBeginningsOfWhatIsViable(t *testing.T) {
	d := dice(12)
	for range 200 {
		g := d.large(t, 1+d.roll(20))
		row := d.rowOf(g, g.Start, 40)
		viable := 0
		for n := range len(row) + 1 {
			is, e := derive.Viable(g, row[:n])
			if e != api.OK || is != (n == viable) {
				t.Fatalf("%v, %v: %v, %v, where %d are viable", g, row[:n], is, e, viable)
			}
			if is && n < len(row) {
				if next, _ := derive.Viable(g, row[:n+1]); next {
					viable++
				}
			}
			// What is no sentence any more is told at one place, however much stands behind it.
			v, _ := derive.Judge(g, row[:n])
			sentence, _ := derive.Derives(g, g.Start, row[:n])
			want := api.Verdict{At: min(n, viable)}
			if is {
				want.At = n
			}
			if sentence {
				want = api.Verdict{Ok: true}
			}
			if v != want {
				t.Fatalf("%v, %v: %v, not %v", g, row[:n], v, want)
			}
		}
	}
}

func TestViableRowsGoOnToASentence(t *testing.T) {
	d := dice(13)
	had := 0
	for range 300 {
		g := d.tiny(t, 1+d.roll(3), 1+d.roll(4), 7, 4)
		high := heights(g)
		for _, row := range append(rowsUpTo(g.Terms, 3), d.rowOf(g, g.Start, 9), d.rowOf(g, g.Start, 9)) {
			is, e := derive.Viable(g, row)
			l, goesOn := behindOf(g, row)
			if is != goesOn || e != api.OK {
				t.Fatalf("%v, %v: %v, %v, but it goes on: %v", g, row, is, e, goesOn)
			}
			// What stands behind it becomes some terminals.
			for _, sym := range l {
				row = append(row, leavesOf(d.grown(g, high, sym, 0))...)
			}
			if is && len(row) <= api.MaxRow {
				judged(t, g, row, len(row), true)
				had++
			}
		}
	}
	if had < 1000 {
		t.Errorf("only %d go on", had)
	}
}
