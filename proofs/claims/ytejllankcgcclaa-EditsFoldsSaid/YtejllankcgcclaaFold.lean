/- A row of edits over a text: the plain answers. -/
import Derived.Test.YtejllankcgcclaaFB
namespace Go.Proofs.Ytejllankcgcclaa
open Go.RowKit
set_option linter.unusedVariables false

def stepT (x : ByteArray) (e : Ed) : ByteArray := if checkZ x.size e.1 e.2.1 e.2.2 = 0 then splice x e.1.toNat e.2.1.toNat e.2.2 else x
def foldT (x : ByteArray) (l : List Ed) : ByteArray := l.foldl stepT x
def errK (x : ByteArray) (l : List Ed) (k : Nat) : Int := match l[k]? with | some e => checkZ (foldT x (l.take k)).size e.1 e.2.1 e.2.2 | none => 0
def errs (x : ByteArray) (l : List Ed) (k : Nat) : List Int := (List.range k).map (errK x l)
theorem errs_length (x : ByteArray) (l : List Ed) (k : Nat) : (errs x l k).length = k := by simp [errs]
theorem errs_succ (x : ByteArray) (l : List Ed) (k : Nat) : errs x l (k + 1) = errs x l k ++ [errK x l k] := by simp [errs, List.range_succ]
theorem foldT_succ (x : ByteArray) (l : List Ed) (k : Nat) (e : Ed) (h : l[k]? = some e) : foldT x (l.take (k + 1)) = stepT (foldT x (l.take k)) e := by
  have hk : k < l.length := (List.getElem?_eq_some_iff.1 h).1
  have he : l[k] = e := (List.getElem?_eq_some_iff.1 h).2
  unfold foldT
  rw [List.take_succ_eq_append_getElem hk, List.foldl_append, he]
  rfl
theorem stepT_size (x : ByteArray) (e : Ed) (m : Nat) (h : x.size ≤ m) (hm : 65536 ≤ m) : (stepT x e).size ≤ m := by
  unfold stepT
  split
  · rename_i hk
    obtain ⟨n1, n2, n3, n4, n5⟩ := fits hk
    rw [splice_size _ _ _ _ (by omega)]
    omega
  · exact h
theorem foldT_size (l : List Ed) (m : Nat) (hm : 65536 ≤ m) : ∀ x : ByteArray, x.size ≤ m → (foldT x l).size ≤ m := by
  induction l with
  | nil => intro x h; exact h
  | cons e l ih => intro x h; exact ih _ (stepT_size x e m h hm)
end Go.Proofs.Ytejllankcgcclaa
