/- Package raws. -/
import Derived.Test.YtbdbnjbafampaaaProg
import Derived.Test.YtbdbnjbafampaaaRn
import Derived.Test.YtbdbnjbafampaaaRS3
import Derived.Test.YtbdbnjbafampaaaEm
import Derived.Test.YtbdbnjbafampaaaDm
import Derived.WalkKit
import Derived.BigFrame
import Derived.WalkMore
import Derived.ScopeJumps
import Derived.StillTailTactics
import Derived.Stop.BytesEq
import Derived.WalkLawsBesides
import Derived.WalkSpells
import Derived.Outline
import Derived.Lib.Walk
import Derived.Lib.Hide
import Derived.Lib.Slices
import Derived.Lib.Strings
import Derived.RegionTactic
import Derived.LoopTactic
import Derived.Below
import Derived.IntWalk
import Derived.Deep.QuietTactic
import Derived.BigQuiet
import Derived.Deep.MidRow
import Derived.Maps.AppendAt
import Derived.Laws.Rows
import Derived.Laws.Tables
import Derived.Deep.WholeRow
import Derived.Deep.Cut
import Derived.Deep.CutRange
import Derived.Lib.SliceRun
import Derived.Laws.MakeOwn
import Derived.Deep.RegionLaw
import Derived.Deep.RegionLawGrows
import Derived.Deep.RegionHeld3
import Derived.RegionCalls
import Derived.Deep.RegionWith
import Derived.Deep.Light
import Derived.Laws.CopyOwn
import Derived.Laws.ResultCell
namespace Go.Proofs.Ytbdbnjbafampaaa
set_option linter.unusedSimpArgs false
set_option linter.unusedVariables false
set_option maxRecDepth 100000
open Go.RowKit
/- Rules as arguments: their kinds; their twins. -/
theorem kv_rules {D : Nat → Prop} {w : World} {ts : List R6.RT} {q : Option Addr} {f : Nat} (hD : ∀ b, D b → b < w.heap.size) (h : R6.RuV D w ts (.slice q ts.length f)) : KV w (R6.kdO q w) ts.length q := fun i hi => by
  obtain ⟨b, o, hq, -, k, u, p, n, c, -, hc, -⟩ := R6.rule_cellsK hD h (Below.refl _ _) hi
  exact ⟨b, o, hq, hc⟩
mutual
theorem wid_sz : ∀ (t : R6.RT), R6.wid t ≤ R6.sz t
  | .mk k u ps => by have := widL_sz ps; have := R6.len_szL ps; simp only [R6.wid, R6.sz]; omega
theorem widL_sz : ∀ (ts : List R6.RT), R6.widL ts ≤ R6.szL ts
  | [] => by simp [R6.widL, R6.szL]
  | t :: ts => by have := wid_sz t; have := widL_sz ts; simp only [R6.widL, R6.szL]; omega
end
theorem wid_mem : ∀ {ts : List R6.RT} {t : R6.RT}, t ∈ ts → R6.wid t ≤ R6.szL ts
  | t :: ts, x, h => by
    rw [R6.szL]
    rcases List.mem_cons.1 h with rfl | h
    · have := wid_sz x; omega
    · have := wid_mem h; omega
theorem kv_twin {D : Nat → Prop} {w : World} {ts : List R6.RT} {kds : Nat → Int} {g cap : Nat} (h : R6.TRul D w ts kds g cap) : KV w kds ts.length (some ⟨g, 0, none⟩) := fun i hi => by
  obtain ⟨k, u, p, n, c, -, h2⟩ := h.el i hi
  exact ⟨g, 0, rfl, by have := h2 0 _ rfl; rw [Nat.zero_add]; exact this⟩
/-- The twins of RawsCuts' arguments. -/
structure CutT (w wa : World) (d : Df) (ds es : Array Value) (ts : List R6.RT) (kds : Nat → Int) (g cap b8 B g2 cap2 : Nat) (q2 : Option Addr) (f2 : Nat) : Prop where
  S : Sb w wa [(b8, .cells es 26), (w.heap.size, .cells ds 26)]
  T : R6.TRul (fun b => b < wa.heap.size) wa ts kds g cap
  TD : TD B wa d g2 cap2 q2 f2
  DE : DC d es (some ⟨g2, 0, none⟩) q2 cap2 f2
theorem CutT.up {w wa z : World} {d : Df} {ds es : Array Value} {ts : List R6.RT} {kds : Nat → Int} {g cap b8 B g2 cap2 : Nat} {q2 : Option Addr} {f2 : Nat} (h : CutT w wa d ds es ts kds g cap b8 B g2 cap2 q2 f2) (hb : Below wa.heap.size wa z) : CutT w z d ds es ts kds g cap b8 B g2 cap2 q2 f2 :=
  ⟨h.S.up hb, h.T.mono (fun b h => Nat.lt_of_lt_of_le h hb.size) (fun b h _ => hb.block b h), h.TD.up hb, h.DE⟩
theorem trul_kinds {D : Nat → Prop} {w : World} {ts : List R6.RT} {kds kds' : Nat → Int} {g cap : Nat} (h : R6.TRul D w ts kds g cap) (he : ∀ i, i < ts.length → kds i = kds' i) : R6.TRul D w ts kds' g cap :=
  ⟨h.cap, h.hD, h.lt, fun i hi => by rw [← he i hi]; exact h.el i hi, h.mks⟩
theorem twin_kinds {D : Nat → Prop} {w v : World} {ts : List R6.RT} {q : Option Addr} {f : Nat} (hD : ∀ b, D b → b < w.heap.size) (hR : R6.RuV D w ts (.slice q ts.length f)) (hln : ts.length ≤ 1000000) (hwid : ∀ t ∈ ts, R6.wid t ≤ 1000000) (hv : Below w.heap.size w v) :
    Calls Try.prog 33 #[.slice q ts.length f] v fun e v2 => (∃ g cap, e = .returned (.slice (some ⟨g, 0, none⟩) ts.length cap) ∧ R6.TRul (fun b => v.heap.size ≤ b ∧ b < v2.heap.size) v2 ts (R6.kdO q w) g cap) ∧ Below v.heap.size v v2 := by
  have hDv : ∀ b, D b → b < v.heap.size := fun b h => Nat.lt_of_lt_of_le (hD b h) hv.size
  have hRv := hR.upb hD hv
  refine (R6.twinrules_any hDv hRv hln hwid).mono ?_
  rintro e v2 ⟨⟨g, cap, rfl, hT⟩, hb⟩
  refine ⟨⟨g, cap, rfl, trul_kinds hT fun i hi => ?_⟩, hb⟩
  obtain ⟨b, o, rfl, h1⟩ := (kv_rules hD hR).up hv i hi
  obtain ⟨b', o', he, h2⟩ := kv_rules hDv hRv i hi
  cases he
  rw [h1] at h2
  injection h2 with h2
  injection h2 with _ h2
  exact h2.symm
/-- Blocks from lo on are as they were. -/
def Kp (lo : Nat) (u v : World) : Prop := u.heap.size ≤ v.heap.size ∧ ∀ b, lo ≤ b → b < u.heap.size → v.heap[b]? = u.heap[b]?
theorem Kp.refl (lo : Nat) (u : World) : Kp lo u u := ⟨Nat.le_refl _, fun _ _ _ => rfl⟩
theorem Kp.up {lo : Nat} {u v z : World} (h : Kp lo u v) (hb : Below v.heap.size v z) : Kp lo u z := ⟨Nat.le_trans h.1 hb.size, fun b h1 h2 => (hb.block b (Nat.lt_of_lt_of_le h2 h.1)).trans (h.2 b h1 h2)⟩
theorem row_kp {B : Nat} {u v : World} {e : TypeId} {size n : Nat} {sl : Value} {xs : List Value} (h : u.ownsRow B e size sl n xs) (hk : Kp B u v) : v.ownsRow B e size sl n xs := by
  refine ⟨h.1, ?_⟩
  rcases h.2 with h1 | ⟨g, cap, cur, hv, hb, hg, rest⟩
  · exact .inl h1
  · exact .inr ⟨g, cap, cur, hv, hb, (hk.2 g hb (Array.getElem?_eq_some_iff.1 hg).1).trans hg, rest⟩
theorem TD.kp {B : Nat} {u v : World} {d : Df} {g cap f : Nat} {q : Option Addr} (h : TD B u d g cap q f) (hk : Kp B u v) : TD B v d g cap q f := by
  obtain ⟨⟨zs, ms, h1, h2, h3, h4⟩, g', cp, e, h5⟩ := h
  exact ⟨⟨zs, ms, h1, h2, h3, ⟨fun z hz => ⟨row_kp (h4.1 z hz).1 hk, (h4.1 z hz).2⟩, row_kp h4.2 hk⟩⟩, g', cp, e, row_kp h5 hk⟩
theorem Kp.row {lo b8 : Nat} {u v : World} {es : Array Value} (h : Kp lo u v) (hs : u.heap.size ≤ b8 ∨ b8 < lo) : Kp lo u (v.setRow b8 es) :=
  ⟨by simpa using h.1, fun b h1 h2 => (setRow_other v b8 b es (by omega)).trans (h.2 b h1 h2)⟩
theorem cut_store {w v uT uD : World} {d : Df} {ds es : Array Value} {ts : List R6.RT} {kds : Nat → Int} {g cap b8 lo B g2 cap2 : Nat} {q2 : Option Addr} {f2 : Nat} (hlt : w.heap.size < b8) (S : Sb w v [(w.heap.size, .cells ds 26)]) (T : R6.TRul (fun b => lo ≤ b ∧ b < uT.heap.size) uT ts kds g cap) (hT : Kp lo uT v) (hT8 : uT.heap.size ≤ b8 ∨ b8 < lo)
    (hTD : TD B uD d g2 cap2 q2 f2) (hD : Kp B uD v) (hD8 : uD.heap.size ≤ b8 ∨ b8 < B) (DE : DC d es (some ⟨g2, 0, none⟩) q2 cap2 f2) (A : v.heap[b8]? = some (.cells zero26 26 (0, 0))) : CutT w (v.setRow b8 es) d ds es ts kds g cap b8 B g2 cap2 q2 f2 := by
  refine ⟨?_, ?_, hTD.kp (hD.row hD8), DE⟩
  · have h1 : Sb w v [(b8, .cells zero26 26), (w.heap.size, .cells ds 26)] := ⟨S.1, fun c hc => by
      simp only [List.mem_cons, List.mem_nil_iff, or_false] at hc
      rcases hc with rfl | rfl
      · exact ⟨Nat.le_of_lt hlt, A⟩
      · exact S.2 _ (List.mem_cons_self ..)⟩
    exact h1.setRow (fun c hc => by
      simp only [List.mem_cons, List.mem_nil_iff, or_false] at hc
      subst hc
      show w.heap.size ≠ b8
      omega)
  · have hk := hT.row (es := es) hT8
    exact T.mono (fun b h => Nat.lt_of_lt_of_le h.2 hk.1) (fun b h _ => hk.2 b h.1 h.2)
theorem RwO.row {B : Nat} {w : World} {l : List (Int × Nat × Nat)} {p : Option Addr} {c N : Nat} (h : RwO B w l (.slice p l.length c)) (h0 : 0 < l.length) (hN : l.length = N) : ∃ g3 cur, p = some ⟨g3, 0, none⟩ ∧ B ≤ g3 ∧ g3 < w.heap.size ∧ w.heap[g3]? = some (.cells cur 60) ∧ N * 3 ≤ cur.size := by
  rcases h.2 with ⟨_, h1⟩ | ⟨g, cap, cur, hv, hb, hg, hc, _, hcs, _⟩
  · omega
  · injection hv with e1 e2 e3
    exact ⟨g, cur, e1, hb, (Array.getElem?_eq_some_iff.1 hg).1, hg, by omega⟩
theorem rawsF_len {d : Df} {ks : Nat → Int} {n : Nat} {s : ByteArray} {L : List (Int × Nat × Nat)} {E : Int} (h : rawsF d ks n s = (L, E)) : L.length ≤ 65536 := by
  rw [rawsF_E] at h
  by_cases h0 : rawsE d n s = 0
  · rw [if_pos h0] at h
    obtain ⟨g1, g2, g3⟩ := rawsE_ok h0
    have h1 := congrArg Prod.fst h
    have := pcA_len (chk_may g1) ks _ (bl s) (Nat.le_refl _)
    rw [bl_len] at this
    simp only [] at h1
    rw [← h1]; omega
  · rw [if_neg h0] at h
    have h1 := congrArg Prod.fst h
    simp only [] at h1
    rw [← h1]; simp
end Go.Proofs.Ytbdbnjbafampaaa
