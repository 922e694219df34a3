package derive_test

import (
	"reflect"
	"slices"
	"testing"

	"rootstock/api"
	"rootstock/derive"
)

// answers are all that is told of a symbol and a row.
type answers struct {
	is, viable bool
	v          api.Verdict
	n          int
	e          [4]api.Errno
}

func ask(g api.Grammar, sym int, row []int) answers {
	var a answers
	a.is, a.e[0] = derive.Derives(g, sym, row)
	a.viable, a.e[1] = derive.Viable(g, row)
	a.v, a.e[2] = derive.Judge(g, row)
	a.n, a.e[3] = derive.Count(g, sym, row)
	return a
}

// roomy is a list with something behind it in its memory.
func roomy[T any](l []T, behind T) []T { return append(slices.Clone(l), behind)[:len(l)] }

// behind is what stands behind a list in its memory.
func behind[T any](l []T) T { return l[:len(l)+1][len(l)] }

func TestArgumentsStay(t *testing.T) {
	d := dice(15)
	for range 300 {
		g := d.large(t, 1+d.roll(9))
		g.Prods = roomy(g.Prods, prod(77, 78))
		for i, p := range g.Prods {
			g.Prods[i].Body = roomy(p.Body, 79)
		}
		x := d.grown(g, heights(g), g.Start, d.roll(5))
		if d.roll(2) == 0 {
			x = d.spoiled(g, x)
		}
		x.Kids = roomy(x.Kids, leaf(80))
		row := roomy(d.rowOf(g, g.Start, 20), 81)
		if d.roll(9) == 0 {
			row = roomy(append(row, -5), 81)
		}
		was, wasTree, wasRow := copied(g), copiedTree(x), slices.Clone(row)
		for _, sym := range []int{-1, 0, g.Start, g.Symbols} {
			ask(g, sym, row)
		}
		derive.Fits(g, x)
		derive.Yield(x)
		if !reflect.DeepEqual(g, was) || !slices.Equal(row, wasRow) || !reflect.DeepEqual(copiedTree(x), wasTree) {
			t.Fatalf("%v, %v, %v became %v, %v, %v", was, wasRow, wasTree, g, row, x)
		}
		if p := behind(g.Prods); p.Head != 77 || behind(row) != 81 || behind(x.Kids).Sym != 80 {
			t.Fatalf("%v, %v, %v: what stood behind is not there any more", g, row, x)
		}
		for _, p := range g.Prods {
			if behind(p.Body) != 79 {
				t.Fatalf("%v: what stood behind a Body is not there any more", g)
			}
		}
	}
}

func TestYieldIsMemoryOfItsOwn(t *testing.T) {
	d := dice(16)
	for range 300 {
		g := d.large(t, 1+d.roll(9))
		x := d.grown(g, heights(g), g.Start, d.roll(6))
		was := copiedTree(x)
		l, other := derive.Yield(x), derive.Yield(x)
		want := slices.Clone(l)
		room := l[:cap(l)]
		for i := range room {
			room[i] = -9
		}
		if !slices.Equal(other, want) || !slices.Equal(derive.Yield(x), want) || !reflect.DeepEqual(x, was) {
			t.Fatalf("%v: %v, %v, not %v", x, other, derive.Yield(x), want)
		}
		fits(t, g, x, api.OK)
	}
}

func TestWhatIsToldIsTheSameEachTime(t *testing.T) {
	d := dice(17)
	for range 300 {
		g := d.large(t, 1+d.roll(9))
		sym, row := d.roll(g.Symbols), d.rowOf(g, g.Start, 20)
		x := d.spoiled(g, d.grown(g, heights(g), g.Start, d.roll(5)))
		told, e, l := ask(g, sym, row), derive.Fits(g, x), derive.Yield(x)
		for range 3 {
			// Other rows of the grammar, and other grammars with the row, make no difference between.
			ask(g, sym, d.rowOf(g, sym, 20))
			ask(d.large(t, 5), 0, row)
			if a := ask(copied(g), sym, slices.Clone(row)); a != told {
				t.Fatalf("%v, %d, %v: %v, not %v", g, sym, row, a, told)
			}
			if f := derive.Fits(copied(g), copiedTree(x)); f != e || !slices.Equal(derive.Yield(copiedTree(x)), l) {
				t.Fatalf("%v, %v: %v, not %v", g, x, f, e)
			}
		}
	}
}

func TestOrderOfProductionsMakesNoDifference(t *testing.T) {
	d := dice(18)
	for range 300 {
		g := d.large(t, 1+d.roll(20))
		other := copied(g)
		mix(&d, other.Prods)
		for i := range other.Prods {
			other.Prods[i].Right = d.roll(2) == 0
		}
		for range 3 {
			sym, row := d.roll(g.Symbols), d.rowOf(g, g.Start, 20)
			if a, b := ask(g, sym, row), ask(other, sym, row); a != b {
				t.Fatalf("%v, %v, %d, %v: %v, %v", g, other, sym, row, a, b)
			}
		}
	}
}

func TestManyAskAtOnce(t *testing.T) {
	g, row := sums(), []int{0, 1, 0, 1, 0, 1, 0}
	x := sum(sum(number(), number()), number())
	want := ask(g, 2, row)
	done := make(chan answers)
	for range 8 {
		go func() {
			derive.Fits(g, x)
			derive.Yield(x)
			done <- ask(g, 2, row)
		}()
	}
	for range 8 {
		if a := <-done; a != want {
			t.Errorf("%v, not %v", a, want)
		}
	}
}
