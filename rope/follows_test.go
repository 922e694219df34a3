package rope_test

import (
	"testing"

	"rootstock/api"
	"rootstock/edits"
)

func TestEditsOneBehindTheOther(t *testing.T) {
	for seed := range 6 {
		d := dice(seed + 100)
		s := text(d.below(2000))
		r := made(t, s)
		var l []api.Edit
		at, told := r, []api.Errno{}
		for range 200 {
			e := d.edit(at.Len())
			if d.below(5) == 0 {
				e = misfits(at.Len())[d.below(len(misfits(0)))]
			}
			l = append(l, e)
			next, f := at.Splice(e)
			told = append(told, f)
			if f == api.OK {
				at = next
			}
		}
		want, wantErrors := edits.Fold(s, l)
		holds(t, at, want)
		for i, f := range wantErrors {
			if told[i] != f {
				t.Errorf("edit %d: %v, %v was asked", i, told[i], f)
			}
		}
	}
}

func TestUndo(t *testing.T) {
	d := dice(9)
	for _, s := range append(samples(), text(3000), full) {
		r := made(t, s)
		for range 30 {
			e := d.edit(len(s))
			u, f := edits.Undo(s, e)
			if f != api.OK {
				t.Fatal(f)
			}
			holds(t, done(t, done(t, r, e), u), s)
		}
	}
}

func TestSliceHasTheBytesOfByte(t *testing.T) {
	d := dice(11)
	r := made(t, text(500))
	for range 20 {
		r = done(t, r, d.edit(r.Len()))
		for range 20 {
			from := d.below(r.Len() + 1)
			to := from + d.below(r.Len()-from+1)
			s, f := r.Slice(span(from, to))
			if len(s) != to-from || f != api.OK {
				t.Fatalf("%d to %d: %d bytes, %v", from, to, len(s), f)
			}
			for i := range len(s) {
				if b, f := r.Byte(from + i); b != s[i] || f != api.OK {
					t.Fatalf("%d: %d, %v", from+i, b, f)
				}
			}
		}
	}
}
