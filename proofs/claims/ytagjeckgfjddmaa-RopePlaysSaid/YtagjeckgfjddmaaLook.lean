/- An argument that is a Look, opened: a number, a span, a place. -/
import Derived.Test.YtagjeckgfjddmaaRPlaces
import Derived.ProofKit
import Derived.OpenShut
import Derived.SizedLaws
import Derived.Lib.SmallJoins
namespace Go.Proofs.Ytagjeckgfjddmaa
set_option linter.unusedSimpArgs false
set_option linter.unusedVariables false
open Go.RowKit Go.ChangeShapes Go.WideShapes Go.Joins

theorem cellsOf3 : Try.prog.cellsOf 3 = 1 := by kernel_rfl
theorem cellsOf32 : Try.prog.cellsOf 32 = 2 := by kernel_rfl
theorem cellsOf34 : Try.prog.cellsOf 34 = 2 := by kernel_rfl
theorem cellsOf36 : Try.prog.cellsOf 36 = 5 := by kernel_rfl
def I64 (n : Int) : Prop := -9223372036854775808 ≤ n ∧ n ≤ 9223372036854775807
theorem wf_bounds {n : Int} (h : (Lit.int .i64 n).wf = true) : I64 n := by
  have h' : decide (IntKind.i64.min ≤ n ∧ n ≤ IntKind.i64.max) = true := by simpa [Lit.wf] using h
  have := of_decide_eq_true h'
  have h1 : IntKind.i64.min = -9223372036854775808 := by decide
  have h2 : IntKind.i64.max = 9223372036854775807 := by decide
  rw [h1, h2] at this
  exact this
theorem open_nested {H : Type} {enc : TypeId × Value → H} {P : Program} {W : World} {r : Reach} {b0 : Nat} {base : Nat} {spare : Nat → Bool} {held : Bool} {t ti ts tp : TypeId} {f0 f1 f2 a0 a1 b1 b2 : Field} {v : Value} {d : DataW H} {p : List MemPlace}
    (ht : P.underlying t = some (.struct #[f0, f1, f2])) (hs : P.underlying ts = some (.struct #[a0, a1])) (hp : P.underlying tp = some (.struct #[b1, b2])) (hi : P.underlying ti = some (.int .i64))
    (ct : P.cellsOf t = 5) (ci : P.cellsOf ti = 1) (c_s : P.cellsOf ts = 2) (cp : P.cellsOf tp = 2)
    (e0 : f0.type = ti ∧ f0.offset = 0) (e1 : f1.type = ts ∧ f1.offset = 1) (e2 : f2.type = tp ∧ f2.offset = 3) (q0 : a0.type = ti ∧ a0.offset = 0) (q1 : a1.type = ti ∧ a1.offset = 1) (r0 : b1.type = ti ∧ b1.offset = 0) (r1 : b2.type = ti ∧ b2.offset = 1)
    (hv : Value.okWide P W r b0 t v) (h : DataW.Trod enc P W base spare held t v d p) :
    ∃ n f g L C : Int, v = lk n f g L C ∧ I64 n ∧ I64 L ∧ I64 C := by
  obtain ⟨cs, rfl, hsz⟩ := okWide_struct ht hv
  obtain ⟨l⟩ := cs
  match l, hsz.trans ct with
  | [c0, c1, c2, c3, c4], _ =>
    obtain ⟨fuel, hf⟩ := h
    obtain ⟨xs, n, _, hx, _, hlen, hg⟩ := DataW.trod_struct ht hf
    match xs, hlen with
    | [y0, y1, y2], _ =>
      have g0 : DataW.trod enc P W base spare held n ti [c0] = some y0 := by simpa [Value.cells, ci, e0.1, e0.2] using hg 0 _ rfl
      have g1 : DataW.trod enc P W base spare held n ts [c1, c2] = some y1 := by simpa [Value.cells, c_s, e1.1, e1.2] using hg 1 _ rfl
      have g2 : DataW.trod enc P W base spare held n tp [c3, c4] = some y2 := by simpa [Value.cells, cp, e2.1, e2.2] using hg 2 _ rfl
      obtain ⟨xs1, n1, _, _, _, hlen1, hg1⟩ := DataW.trod_struct hs g1
      obtain ⟨xs2, n2, _, _, _, hlen2, hg2⟩ := DataW.trod_struct hp g2
      match xs1, hlen1, xs2, hlen2 with
      | [z1, z2], _, [z3, z4], _ =>
        have k1 : DataW.trod enc P W base spare held n1 ti [c1] = some z1 := by simpa [ci, q0.1, q0.2] using hg1 0 _ rfl
        have k2 : DataW.trod enc P W base spare held n1 ti [c2] = some z2 := by simpa [ci, q1.1, q1.2] using hg1 1 _ rfl
        have k3 : DataW.trod enc P W base spare held n2 ti [c3] = some z3 := by simpa [ci, r0.1, r0.2] using hg2 0 _ rfl
        have k4 : DataW.trod enc P W base spare held n2 ti [c4] = some z4 := by simpa [ci, r1.1, r1.2] using hg2 1 _ rfl
        obtain ⟨i0, e0, -, w0⟩ := DataW.trod_int hi g0
        obtain ⟨i1, e1, -, w1⟩ := DataW.trod_int hi k1
        obtain ⟨i2, e2, -, w2⟩ := DataW.trod_int hi k2
        obtain ⟨i3, e3, -, w3⟩ := DataW.trod_int hi k3
        obtain ⟨i4, e4, -, w4⟩ := DataW.trod_int hi k4
        obtain rfl : c0 = _ := by simpa using e0
        obtain rfl : c1 = _ := by simpa using e1
        obtain rfl : c2 = _ := by simpa using e2
        obtain rfl : c3 = _ := by simpa using e3
        obtain rfl : c4 = _ := by simpa using e4
        exact ⟨i0, i1, i2, i3, i4, rfl, wf_bounds w0, wf_bounds w3, wf_bounds w4⟩
set_option maxRecDepth 100000 in
theorem open_look {H : Type} {enc : TypeId × Value → H} {W : World} {r : Reach} {b0 : Nat} {v : Value} {d : DataW H} {p : List MemPlace}
    (hv : Value.okWide Try.prog W r b0 36 v) (h : DataW.Trod enc Try.prog W 0 (fun _ => true) true 36 v d p) :
    ∃ n f g L C : Int, v = lk n f g L C ∧ I64 n ∧ I64 L ∧ I64 C :=
  open_nested Try.underlying36 Try.underlying32 Try.underlying34 Try.underlying3 cellsOf36 cellsOf3 cellsOf32 cellsOf34 ⟨rfl, rfl⟩ ⟨rfl, rfl⟩ ⟨rfl, rfl⟩ ⟨rfl, rfl⟩ ⟨rfl, rfl⟩ ⟨rfl, rfl⟩ ⟨rfl, rfl⟩ hv h
end Go.Proofs.Ytagjeckgfjddmaa
