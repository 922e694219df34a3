/- Texts of package regs, one behind the other. -/
import Derived.Test.YtemkppjdfjoipaaProg
import Derived.Test.YtemkppjdfjoipaaW29
import Derived.Test.YtemkppjdfjoipaaRS0
import Derived.Deep.SlicePairs
import Derived.Deep.Slices
import Derived.Laws.IdiomArrays
import Derived.OpenShut
import Derived.WideBlind
import Derived.Great.BuildSlice
import Derived.WalkKit
import Derived.Maps.OwnSet
import Derived.Maps.OwnOps
import Derived.Maps.Own
import Derived.DeepKeys5
import Derived.BigFrame
import Derived.WalkMore
import Derived.ScopeJumps
import Derived.StillTailTactics
import Derived.Stop.BytesEq
import Derived.WalkLawsBesides
import Derived.WalkSpells
import Derived.Outline
import Derived.Lib.Walk
import Derived.Lib.Hide
import Derived.Lib.Slices
import Derived.Lib.Strings
import Derived.RegionTactic
import Derived.LoopTactic
import Derived.Below
import Derived.IntWalk
import Derived.Deep.QuietTactic
import Derived.BigQuiet
import Derived.Deep.MidRow
import Derived.Maps.AppendAt
import Derived.Laws.Rows
import Derived.Laws.Tables
import Derived.Deep.WholeRow
import Derived.Deep.Cut
import Derived.Deep.CutRange
import Derived.Lib.SliceRun
import Derived.Laws.MakeOwn
import Derived.Deep.RegionLaw
import Derived.Deep.RegionLawGrows
import Derived.Deep.RegionHeld3
import Derived.RegionCalls
import Derived.Deep.RegionWith
import Derived.Deep.Light
import Derived.Laws.CopyOwn
import Derived.Laws.ResultCell
section
/- Package relex. -/
namespace Go.Proofs.Ytemkppjdfjoipaa.I1.X
set_option linter.unusedSimpArgs false
set_option linter.unusedVariables false
set_option maxRecDepth 100000
open Go.RowKit
/- newScanner. -/
open Go.Maps
theorem info130 : (Try.prog.info? 130).map (fun i => (i.zero, i.size)) = some (some (.agg #[.int .i64 0, .int .i64 0, .int .u64 0, .int .u64 0, .int .u64 0, .int .u64 0, .slice none 0 0]), 7) := by kernel_rfl
theorem zero130 (w : World) : (zeroValue 130).run Try.prog w = .ok (.agg #[.int .i64 0, .int .i64 0, .int .u64 0, .int .u64 0, .int .u64 0, .int .u64 0, .slice none 0 0]) w := (zero_of_info info130).1 w
theorem info58 : (Try.prog.info? 58).map (·.size) = some 256 := by kernel_rfl
theorem dc_cl {d : Df} {ds : Array Value} {p q : Option Addr} {c f : Nat} (h : DC d ds p q c f) : ∀ j v, (cA d.cl).toList[j]? = some v → ds[1 + j]? = some v := fun j v hj => by
  have hl : j < 256 := by
    have := (List.getElem?_eq_some_iff.1 hj).1
    rwa [Array.length_toList, cA_size] at this
  rw [Array.getElem?_toList, cA_get _ hl] at hj
  rw [(h.cl j hl).1, ← hj]
theorem zD26_257 : zD26[257]? = some (.slice none 0 0) := by kernel_rfl
theorem own_drew {w : World} {B : Nat} {e : TypeId} {size : Nat} {v : Value} {n : Nat} {xs : List Value} (h : w.ownsRow B e size v n xs) : w.drew.ownsRow B e size v n xs := h
theorem one_drew (w : World) (x : Value) (t : TypeId) : ∀ j u, [x][j]? = some u → (w.alloc (.cells #[x] t)).drew.cell? ((⟨w.heap.size, 0, none⟩ : Addr).add j) = some u := cell_one_new w x t
theorem box_k {B b : Nat} {w0 w : World} {A : Array Value} {k n o : Value} {L : List It} (hA : A.size = 261) (h : Sep B w0 w (.box b (.cells (scA A k n o) 136 (0, 0)) :: L)) : w.cell? ⟨b, 0, none⟩ = some k := by
  have e := h.boxAt 0
  rw [scA_get hA, if_neg (by omega), if_neg (by omega), if_pos rfl] at e
  exact e
theorem box_n {B b : Nat} {w0 w : World} {A : Array Value} {k n o : Value} {L : List It} (hA : A.size = 261) (h : Sep B w0 w (.box b (.cells (scA A k n o) 136 (0, 0)) :: L)) : w.cell? ⟨b, 258, none⟩ = some n := by
  have e := h.boxAt 258
  rw [scA_get hA, if_neg (by omega), if_pos rfl] at e
  exact e
theorem box_o {B b : Nat} {w0 w : World} {A : Array Value} {k n o : Value} {L : List It} (hA : A.size = 261) (h : Sep B w0 w (.box b (.cells (scA A k n o) 136 (0, 0)) :: L)) : w.cell? ⟨b, 260, none⟩ = some o := by
  have e := h.boxAt 260
  rw [scA_get hA, if_pos rfl] at e
  exact e
def zb (l : List (List Int)) : List Value := l.map fun r => .bool (onRow r)
theorem info25b : (Try.prog.info? 25).map (fun i => (i.zero, i.size, i.bytes)) = some (some (.slice none 0 0), 1, 24) := by kernel_rfl
theorem info4z : (Try.prog.info? 4).map (fun i => (i.zero, i.size, i.bytes)) = some (some (.bool false), 1, 1) := by kernel_rfl
theorem wpK_build {o : Oper} {a : Act} {w : World} {K : Act → World → Prop} {Q : Exit → Act → World → Prop} (t : TypeId) (parts : Array (Nat × Operand)) (ho : o.op = .build t parts) (vs : List (Nat × Value)) (hv : (parts.map fun (i, x) => (i, a.eval x)).toList = vs) {A : Array Value} (hb : Try.prog.built t vs = some A)
    (h : K (a.put o.dst (.agg A)) w) : o.wp Try.prog a w K Q := by
  subst hv
  refine wp_build t parts ho (by rw [hb]; rfl) ?_
  rw [hb]; exact h
theorem yieldsIf_cls {ops : Array Oper} {S : World → Prop} {op : Oper} {a : Act} (hw : Region.wanted op (yielded ops a.tmps) = true) (x : Operand) (ho : op.op = .load 58 x)
    (b o : Nat) (hx : a.eval x = .pointer (some ⟨b, o, none⟩)) {g : Nat → Nat} (hS : ∀ w, S w → w.rangeAt b o (cA g).toList) : YieldsIf Try.prog ops S op (.agg (cA g)) a := by
  have h := yieldsIf_load_mid (P := Try.prog) hw 58 x ho b o hx (cA g).toList _ hS Try.underlying58 rfl (by rw [info58, Array.length_toList, cA_size])
  rw [Array.toArray_toList] at h
  exact h
def NsP (w : World) (d : Df) (kl : List Int) (e : Ending) (w' : World) : Prop := ∃ bs, e = .returned (.pointer (some ⟨bs, 0, none⟩)) ∧ SN w'.heap.size w' bs d kl ∧ Below w.heap.size w w'
theorem sn_of {B bs b3 m j : Nat} {w0 wo : World} {d : Df} {ds dn sz : Array Value} {p q qn qo qk q3 : Option Addr} {c f cn co ck k3 : Nat} {kl : List Int} {vs : List Value} {CL : List It}
    (hd : DC d ds p q c f) (hdn : dN d.st d.cl (.slice q3 d.rl.length k3) = dn) (hsz : sZ dn = sz) (hv : vs.length = m ∧ ∀ i (h : i < vs.length) (h2 : i < d.nx.length), rI vs[i] d.nx[i] ∈ CL) (hm : d.nx.length = m) (hj : kl.length = j) (hnx : m ≤ 1000000) (hrl : d.rl.length ≤ 1000000) (hrw : ∀ r ∈ d.nx, r.length ≤ 1000000)
    (hs : Sep B w0 wo (.row (.slice qn m cn) 25 1 m vs :: .row (.slice qo m co) 4 1 m (zb d.nx) :: .box bs (.cells (scA sz (.slice qk j ck) (.slice qn m cn) (.slice qo m co)) 136 (0, 0)) :: rI (.slice qk j ck) kl :: rI (.slice q3 d.rl.length k3) d.rl :: .box b3 (.cells ds 61 (0, 0)) :: CL)) : SN wo.heap.size wo bs d kl := by
  subst hj
  have hdns : dn.size = 259 := by rw [← hdn]; exact dN_size ..
  have hszs : sz.size = 261 := by rw [← hsz]; exact sZ_size ..
  have hbs := It.lt hs.tl.tl.at rfl
  have hz : ∀ i, 1 ≤ i → i < 260 → sz[i]? = dn[i - 1]? := fun i h1 h2 => by rw [← hsz, sZ_get hdns, if_pos ⟨h1, h2⟩]
  have hset : ∀ i, (dn.setIfInBounds 257 (.slice qn m cn))[i]? = if i = 257 then some (.slice qn m cn) else dn[i]? := fun i => by
    rw [Array.getElem?_setIfInBounds]
    by_cases e : i = 257
    · subst e; rw [if_pos rfl, if_pos (by omega), if_pos rfl]
    · rw [if_neg (fun h => e h.symm), if_neg e]
  have hdg := fun i => dN_get d.st d.cl (.slice q3 d.rl.length k3) i
  simp only [hdn] at hdg
  have hbx := fun i => hs.tl.tl.boxAt i
  simp only [scA_get hszs] at hbx
  refine ⟨dn.setIfInBounds 257 (.slice qn m cn), qn, q3, qk, qo, cn, k3, ck, co, ⟨hbs.2, Nat.le_refl _, ?_, ?_, ?_, ?_, ?_, ?_, ?_⟩⟩
  · refine ⟨by rw [Array.size_setIfInBounds, hdns], fun v hv => ?_, ?_, fun i hi => ⟨?_, (hd.cl i hi).2⟩, ?_, ?_⟩
    · rcases Array.mem_or_eq_of_mem_setIfInBounds hv with h | h
      · exact dN_one d.st d.cl q3 d.rl.length k3 v (by rw [hdn]; exact h)
      · rw [h]; rfl
    · rw [hset, if_neg (by omega), hdg, if_neg (by omega), if_neg (by omega), if_pos rfl]
    · rw [hset, if_neg (by omega), hdg, if_neg (by omega), if_pos (by omega), show 1 + i - 1 = i by omega]
    · rw [hset, if_pos rfl, hm]
    · rw [hset, if_neg (by omega), hdg, if_pos rfl]
  · refine ⟨⟨qn, cn, by rw [hm], fun hn => ?_⟩, ?_, fun b hb => hb, by omega, by omega, fun r hr => by have := hrw r hr; omega⟩
    · have hpos : 0 < m := by rw [← hm]; exact List.length_pos_iff.2 hn
      obtain ⟨g, cap, hg, hcap⟩ := row_own hs.at hpos
      injection hg with e1 e2 e3
      subst e1 e3
      refine ⟨g, 0, rfl, (It.lt hs.at rfl).2, fun i hi => ?_⟩
      have hiv : i < vs.length := by rw [hv.1, ← hm]; exact hi
      have hmem := hv.2 i hiv hi
      have hrow : It.lies B wo (rI vs[i] d.nx[i]) := hs.li _ (List.mem_cons_of_mem _ (List.mem_cons_of_mem _ (List.mem_cons_of_mem _ (List.mem_cons_of_mem _ (List.mem_cons_of_mem _ (List.mem_cons_of_mem _ hmem))))))
      obtain ⟨qi, ci, hvi⟩ := row_form hrow
      refine ⟨qi, ci, ?_, ?_⟩
      · have h := own_iv hrow
        rw [hvi] at h
        exact IV.mono (fun b hb => hb.2.1) (fun b _ _ => rfl) h
      · have := World.ownsRow.cells hs.at (g := g) rfl i vs[i] (List.getElem?_eq_getElem hiv)
        rw [Addr.add_mid] at this
        rw [this, hvi]
    · have h := own_iv (hs.li (rI (.slice q3 d.rl.length k3) d.rl) (by simp))
      exact IV.mono (fun b hb => hb.2.1) (fun b _ _ => rfl) h
  · intro i v hv'
    rw [hset] at hv'
    have hi : i < 259 := by
      by_cases e : i = 257
      · omega
      · rw [if_neg e] at hv'
        have := (Array.getElem?_eq_some_iff.1 hv').1
        omega
    rw [hbx]
    by_cases e : i = 257
    · subst e
      rw [if_neg (by omega), if_pos rfl]
      rw [if_pos rfl] at hv'; exact hv'
    · rw [if_neg e] at hv'
      rw [if_neg (by omega), if_neg (by omega), if_neg (by omega), hz (1 + i) (by omega) (by omega), show 1 + i - 1 = i by omega]
      exact hv'
  · rw [hbx, if_neg (by omega), if_neg (by omega), if_pos rfl]
  · have h := own_iv (hs.li (rI (.slice qk kl.length ck) kl) (by simp))
    exact IV.mono (fun b hb => hb.2.1) (fun b _ _ => rfl) h
  · rw [hbx, if_pos rfl, hm]
  · refine ⟨qo, co, by rw [List.length_map, hm], fun hn => ?_⟩
    have hpos : 0 < m := by
      rw [← hm]; exact List.length_pos_iff.2 (by intro e; rw [e] at hn; exact hn rfl)
    obtain ⟨g, cap, hg, hcap⟩ := row_own hs.tl.at hpos
    injection hg with e1 e2 e3
    subst e1 e3
    refine ⟨g, 0, rfl, (It.lt hs.tl.at rfl).2, fun i hi => ?_⟩
    have := World.ownsRow.cells hs.tl.at (g := g) rfl i (.bool (d.nx.map onRow)[i]) (by
      rw [List.length_map] at hi
      simp [zb, hi])
    rw [Addr.add_mid] at this
    exact this
end Go.Proofs.Ytemkppjdfjoipaa.I1.X
end
section
/- Package relex. -/
namespace Go.Proofs.Ytemkppjdfjoipaa.I1.X
set_option linter.unusedSimpArgs false
set_option linter.unusedVariables false
set_option maxRecDepth 100000
open Go.RowKit
/- Lists that may be another one's, cut at their ends: what is appended goes «to» memory of one's own. -/
/-- Read where it lies, with no room behind; or a row of one's own. -/
def fr (own : Bool) (v : Value) (e : TypeId) (size n : Nat) (xs : List Value) : It := bif own then .row v e size n xs else .row (.slice none 0 0) e size 0 []
structure Fr (B : Nat) (w0 : World) (own : Bool) (v : Value) (size n : Nat) (xs : List Value) : Prop where
  len : xs.length = n * size
  out : own = false → ∃ p, v = .slice p n n ∧ (p = none → n = 0) ∧ GV (fun b => b < B) w0 xs p
theorem Fr.at_ {B : Nat} {w0 w : World} {own : Bool} {v : Value} {e : TypeId} {size n : Nat} {xs : List Value} {L : List It} (h : Fr B w0 own v size n xs) (hs : Sep B w0 w (fr own v e size n xs :: L)) : ∃ p c, v = .slice p n c ∧ n ≤ c ∧ (p = none → c = 0) ∧ GV (fun b => b < w.heap.size) w xs p := by
  cases own with
  | false =>
    obtain ⟨p, rfl, h0, hg⟩ := h.out rfl
    refine ⟨p, n, rfl, Nat.le_refl _, h0, fun hn => ?_⟩
    obtain ⟨b, o, hp, hb, hc⟩ := hg hn
    exact ⟨b, o, hp, Nat.lt_of_lt_of_le hb hs.sz, fun j u hu => (cell_same (hs.bel.block b hb) _).trans (hc j u hu)⟩
  | true =>
    have hr : w.ownsRow B e size v n xs := hs.at
    rcases hr.2 with ⟨rfl, h0⟩ | ⟨g, cap, cur, hv, _, _, hc, _⟩
    · refine ⟨none, 0, by rw [h0], by omega, fun _ => rfl, fun hn => ?_⟩
      have := h.len
      rw [h0, Nat.zero_mul] at this
      exact absurd (List.length_eq_zero_iff.1 this) hn
    · subst hv
      refine ⟨some ⟨g, 0, none⟩, cap, rfl, hc, (fun h => by cases h), fun _ => ⟨g, 0, rfl, (hr.lt g rfl).2, fun j u hu => ?_⟩⟩
      have := hr.cells (g := g) rfl j u hu
      rwa [Addr.add_mid] at this
/-- Behind an append. -/
theorem run_append_fr {B : Nat} {w0 w : World} {own : Bool} {v : Value} {e : TypeId} {size n : Nat} {xs : List Value} {L : List It} (t ty : TypeId) (i : TypeInfo) (z : Value) (bytes : Nat) (ht : Try.prog.underlying t = some (.slice e)) (hi : Try.prog.info? e = some i) (hz : i.zero = some z) (hsize : i.size = size) (hby : i.bytes = bytes) (hzs : z.cells.size = size) (hsz : 0 < size)
    (hf : Fr B w0 own v size n xs) (hs : Sep B w0 w (fr own v e size n xs :: L)) (a : Addr) (m c : Nat) (hm : 0 < m) (news : List Value) (hl : news.length = m * size) (hnews : ∀ j u, news[j]? = some u → w.cell? (a.add j) = some u) (h1 : ∀ u ∈ news, u.oneCell' = true) (h63 : n + m ≤ 1000000000) (hbb : bytes ≤ 1000) :
    ∃ v' w', (Builtin.append_ #[t, t] ty #[v, .slice (some a) m c]).run Try.prog w = .ok v' w' ∧ Sep B w0 w' (.row v' e size (n + m) (xs ++ news) :: L) ∧ Fr B w0 true v' size (n + m) (xs ++ news) := by
  have hmx : n + m ≤ maxLen := by unfold maxLen; omega
  have hbytes : (n + m) * bytes ≤ 140737488355328 := Nat.le_trans (Nat.mul_le_mul h63 hbb) (by omega)
  have hlen : (xs ++ news).length = (n + m) * size := by rw [List.length_append, hf.len, hl, Nat.add_mul]
  cases own with
  | true =>
    have hr : w.ownsRow B e size v n xs := hs.at
    obtain ⟨v', w', hrun, hown, hg, _, hat⟩ := run_append_own_at (P := Try.prog) w B t ty e i z size bytes ht hi hz hsize hby hzs hsz v n xs hr a m c news hl hnews h1 hmx hbytes hs.sz
    exact ⟨v', w', hrun, Sep.app (e := e) (size := size) (n := n) (xs := xs) hs hown hg hat, hlen, fun h => by cases h⟩
  | false =>
    obtain ⟨p, rfl, _, hg⟩ := hf.out rfl
    subst hsize
    subst hby
    have hcap := grownCap_ge w (n + m) n e
    have hcm : grownCap w (n + m) n e ≤ maxLen := grownCap_le_maxLen w (n + m) n e hmx
    have key : ∀ v0 w1, (Builtin.append_ #[t, t] ty #[.slice p n n, .slice (some a) m c]).run Try.prog w = .ok v0 w1 → v0 = .slice (some ⟨w.heap.size, 0, none⟩) (n + m) (grownCap w (n + m) n e) → w1 = w.drew.alloc (.cells (xs.toArray ++ news.toArray ++ Builtin.zeroCells z.cells (grownCap w (n + m) n e - (n + m))) e) → ∃ v' w', (Builtin.append_ #[t, t] ty #[.slice p n n, .slice (some a) m c]).run Try.prog w = .ok v' w' ∧ Sep B w0 w' (.row v' e i.size (n + m) (xs ++ news) :: L) ∧ Fr B w0 true v' i.size (n + m) (xs ++ news) := fun v0 w1 hr e1 e2 => by
      subst e1 e2
      refine ⟨_, _, hr, ?_, hlen, fun h => by cases h⟩
      have hb : Below w.heap.size w (w.drew.alloc (.cells (xs.toArray ++ news.toArray ++ Builtin.zeroCells z.cells (grownCap w (n + m) n e - (n + m))) e)) := (below_drewN (Below.refl _ _) 1).alloc (Nat.le_refl _) _
      refine Sep.add hs.tl hb ⟨hlen, .inr ⟨w.heap.size, _, _, rfl, Nat.le_refl _, heap_alloc_new w.drew _, hcap, hcm, ?_, ?_⟩⟩
      · simp only [Array.size_append, List.size_toArray, size_zeroCells, hzs, hf.len, hl, ← Nat.add_mul]
        congr 1
        omega
      · simp only [Array.toList_append, List.append_assoc]
        rw [← List.append_assoc, ← hlen]
        exact List.take_left
    by_cases hx : xs = []
    · subst hx
      have hn : n = 0 := by
        have := hf.len
        simp only [List.length_nil] at this
        rcases Nat.mul_eq_zero.1 this.symm with h | h <;> omega
      subst hn
      cases p with
      | none =>
        have hr := run_append_nil (P := Try.prog) w t ty e i z ht hi hz a m c news hl hnews (by omega) (by unfold maxLen at hmx; omega) (by have := hbytes; rw [Nat.zero_add] at this; omega)
        refine key _ _ hr (by rw [Nat.zero_add]) ?_
        simp
      | some a0 =>
        have hr := run_append_grow (P := Try.prog) w t ty e i z ht hi hz a0 0 0 [] (by simp) (fun j u hu => by simp at hu) a m c news hl hnews (by omega) (by omega) (growslice_fits (by omega) hbytes)
        exact key _ _ hr rfl (by simp)
    · obtain ⟨b, o, rfl, hb, hc⟩ := hg hx
      have hr := run_append_grow (P := Try.prog) w t ty e i z ht hi hz ⟨b, o, none⟩ n n xs hf.len (fun j u hu => by rw [Addr.add_mid]; exact (cell_same (hs.bel.block b hb) _).trans (hc j u hu)) a m c news hl hnews (by omega) (by omega) (growslice_fits (by omega) hbytes)
      exact key _ _ hr rfl rfl
end Go.Proofs.Ytemkppjdfjoipaa.I1.X
end
