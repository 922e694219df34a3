/- Texts of package regs, one behind the other. -/
import Derived.Test.YthglciccejholaaDoorProg
import Derived.Test.YthglciccejholaaDoorN25
import Derived.WalkKit
import Derived.WalkLawsBesides
import Derived.WalkSpells
import Derived.Outline
import Derived.Lib.Walk
import Derived.Lib.Hide
import Derived.Lib.Slices
import Derived.Lib.Strings
import Derived.RegionTactic
import Derived.LoopTactic
import Derived.Below
import Derived.IntWalk
import Derived.Deep.QuietTactic
import Derived.BigQuiet
import Derived.Deep.MidRow
import Derived.Maps.AppendAt
import Derived.Laws.Rows
import Derived.Laws.Tables
import Derived.Deep.WholeRow
import Derived.Deep.Cut
import Derived.Deep.CutRange
import Derived.Lib.SliceRun
import Derived.Laws.MakeOwn
import Derived.Deep.RegionLaw
import Derived.Deep.RegionLawGrows
section
/- Package nfa. -/
namespace Go.Proofs.YthglciccejholaaDoor
set_option linter.unusedSimpArgs false
set_option linter.unusedVariables false
set_option maxRecDepth 100000
open Go.RowKit
/- byteOf; what alive hands in. -/
theorem info47 : (Tryd.prog.info? 24).map (fun i => (i.zero, i.size)) = some (some (.agg #[.int .u64 0, .int .u64 0, .int .u64 0, .int .u64 0]), 4) := by kernel_rfl
theorem zero47 (w : World) : (zeroValue 24).run Tryd.prog w = .ok (.agg #[.int .u64 0, .int .u64 0, .int .u64 0, .int .u64 0]) w := (zero_of_info info47).1 w
set_option maxHeartbeats 4000000 in
theorem byteOf_a (w : World) : Calls Tryd.prog 42 #[.int .u8 97] w fun e w' => e = .returned (uV uA) ∧ Below w.heap.size w w' := by
  have hz := zero47
  have S0 := Lib.hid ((((Below.refl w.heap.size w).alloc (Nat.le_refl _) (.cells #[.int .u64 0, .int .u64 8589934592, .int .u64 0, .int .u64 0] 24)).alloc (by simp) (.cells #[.int .u64 0, .int .u64 8589934592, .int .u64 0, .int .u64 0] 24)))
  go_enter Tryd.func42, Tryd.ntmps42
  go_wp2_with fail
  have c0 : ∀ i v, (#[.int .u64 0, .int .u64 8589934592, .int .u64 0, .int .u64 0] : Array Value)[i]? = some v → ((w.alloc (.cells #[.int .u64 0, .int .u64 8589934592, .int .u64 0, .int .u64 0] 24)).alloc (.cells #[.int .u64 0, .int .u64 8589934592, .int .u64 0, .int .u64 0] 24)).cell? ⟨w.heap.size, i, none⟩ = some v := fun i v hv => by
    rw [cell_of_row _ w.heap.size i _ 24 (0, 0) ((heap_alloc_old _ _ (by simp)).trans (heap_alloc_last w _))]; exact hv
  have e0 := c0 0 _ rfl
  have e1 := c0 1 _ rfl
  have e2 := c0 2 _ rfl
  have e3 := c0 3 _ rfl
  exact bodyPost_ret (v := uV uA) (by simp [results, Tryd.results42, asAddr, go_sem, e0, e1, e2, e3, uV, uA]) rfl ⟨rfl, S0.out⟩
theorem bnode (u : Nat → Int) : Tryd.prog.built 27 [(0, .int .i64 2), (1, uV u)] = some (nodeC 2 u (.slice none 0 0)) := by kernel_rfl
theorem bstar (p : Option Addr) (n c : Nat) : Tryd.prog.built 27 [(0, .int .i64 5), (2, .slice p n c)] = some (nodeC 5 uZ (.slice p n c)) := by kernel_rfl
def ruleC (k : Int) (u : Nat → Int) (sl : Value) : Array Value := #[.int .i64 0, .int .i64 k, .int .u64 (u 0), .int .u64 (u 1), .int .u64 (u 2), .int .u64 (u 3), sl]
theorem brule (k : Int) (u : Nat → Int) (p : Option Addr) (n c : Nat) : Tryd.prog.built 29 [(1, .agg (nodeC k u (.slice p n c)))] = some (ruleC k u (.slice p n c)) := by kernel_rfl
theorem wpList_bnode {ops : Array Oper} {rest : List Oper} {o : Oper} {a : Act} {w : World} {Q : Exit → Act → World → Prop} {x y : Operand} {u : Nat → Int} (hg : o.guard = none) (ho : o.op = .build 27 #[(0, x), (1, y)]) (hx : a.eval x = .int .i64 2) (hy : a.eval y = uV u)
    (h : wpList Tryd.prog ops Q rest (a.put o.dst (.agg (nodeC 2 u (.slice none 0 0)))) w) : wpList Tryd.prog ops Q (o :: rest) a w := by
  refine wpList_build hg 27 _ ho ?_ ?_
  · simp [hx, hy, bnode]
  · simp [hx, hy, bnode]; exact h
theorem wpList_bstar {ops : Array Oper} {rest : List Oper} {o : Oper} {a : Act} {w : World} {Q : Exit → Act → World → Prop} {x y : Operand} {p : Option Addr} {n c : Nat} (hg : o.guard = none) (ho : o.op = .build 27 #[(0, x), (2, y)]) (hx : a.eval x = .int .i64 5) (hy : a.eval y = .slice p n c)
    (h : wpList Tryd.prog ops Q rest (a.put o.dst (.agg (nodeC 5 uZ (.slice p n c)))) w) : wpList Tryd.prog ops Q (o :: rest) a w := by
  refine wpList_build hg 27 _ ho ?_ ?_
  · simp [hx, hy, bstar]
  · simp [hx, hy, bstar]; exact h
theorem wpList_brule {ops : Array Oper} {rest : List Oper} {o : Oper} {a : Act} {w : World} {Q : Exit → Act → World → Prop} {x : Operand} {k : Int} {u : Nat → Int} {p : Option Addr} {n c : Nat} (hg : o.guard = none) (ho : o.op = .build 29 #[(1, x)]) (hx : a.eval x = .agg (nodeC k u (.slice p n c)))
    (h : wpList Tryd.prog ops Q rest (a.put o.dst (.agg (ruleC k u (.slice p n c)))) w) : wpList Tryd.prog ops Q (o :: rest) a w := by
  refine wpList_build hg 29 _ ho ?_ ?_
  · simp [hx, brule]
  · simp [hx, brule]; exact h
end Go.Proofs.YthglciccejholaaDoor
end
section
/- Package nfa. -/
namespace Go.Proofs.YthglciccejholaaDoor
set_option linter.unusedSimpArgs false
set_option linter.unusedVariables false
set_option maxRecDepth 100000
open Go.RowKit
/- alive. -/
theorem exW : ∀ s ∈ ex6, okW s.u := by
  intro s hs
  simp only [ex6, List.mem_cons, List.not_mem_nil, or_false] at hs
  rcases hs with rfl | rfl | rfl | rfl | rfl | rfl <;> intro i <;> simp only [uZ, uA] <;> (try split) <;> omega
theorem exF : ∀ s ∈ ex6, s.fr.length ≤ 9223372036854775806 := by
  intro s hs
  simp only [ex6, List.mem_cons, List.not_mem_nil, or_false] at hs
  rcases hs with rfl | rfl | rfl | rfl | rfl | rfl <;> simp
/-- Does a set, a star, or nothing match some text? -/
def M1 : RT → Bool
  | .mk k u _ => if k = 2 then !zeroU u else k == 5
def tsA : List RT := [.mk 2 uA [], .mk 5 uZ [.mk 2 uA []]]
theorem tsA_ck : ∀ t ∈ tsA, checkE t = 0 := by decide
theorem tsA_sm : ∀ t ∈ tsA, smp t = true := by decide
theorem some_any {D : Nat → Prop} (t : RT) (ht : (∃ u ps, t = .mk 2 u ps) ∨ (∃ u ps, t = .mk 5 u ps) ∨ ∃ u ps, t = .mk 0 u ps) (v : Value) (z : World) (hv : RV D z t v) : Calls Tryd.prog 75 #[v] z fun e z' => e = .returned (.bool (M1 t)) ∧ Below z.heap.size z z' := by
  rcases ht with ⟨u, ps, rfl⟩ | ⟨u, ps, rfl⟩ | ⟨u, ps, rfl⟩
  · obtain ⟨p, c, rfl, _⟩ := hv.parts
    exact some_set u p ps.length c z
  · obtain ⟨p, c, rfl, _⟩ := hv.parts
    exact some_star u p ps.length c z
  · obtain ⟨p, c, rfl, _⟩ := hv.parts
    exact some_none u p ps.length c z
theorem of_ex {D : Nat → Prop} {w : World} {q : Option Addr} {f : Nat} (hD : ∀ b, D b → b < w.heap.size) (hR : RuV D w tsA (.slice q 2 f)) :
    Calls Tryd.prog 13 #[.slice q 2 f] w fun e w' => (∃ sq c, e = .returned (.tuple #[.agg #[.int .i64 5, .slice sq 6 c], .int .i64 0]) ∧ SV (fun b => w.heap.size ≤ b ∧ b < w'.heap.size) w' ex6 (.slice sq 6 c)) ∧ Below w.heap.size w w' := by
  have hREF := Lib.hid fun z (hb : Below w.heap.size w z) => refused_ok (w := z) (ts := tsA) (q := q) (f := f) M1 (fun b h => Nat.lt_of_lt_of_le (hD b h) hb.size) (hR.mono (fun b h => h) (fun b h _ => hb.block b (hD b h))) (by decide) tsA_ck (by decide) (fun t ht v z' hv _ => some_any t (by
    simp only [tsA, List.mem_cons, List.not_mem_nil, or_false] at ht
    rcases ht with rfl | rfl
    · exact .inl ⟨_, _, rfl⟩
    · exact .inr (.inl ⟨_, _, rfl⟩)) v z' hv)
  rw [show (if tsA.all M1 = true then (0 : Int) else 70) = 0 from by decide] at hREF
  exact of_ok hD hR tsA_sm (by decide) hREF
theorem of_no {D : Nat → Prop} {w : World} {u : Nat → Int} {q : Option Addr} {f : Nat} (hD : ∀ b, D b → b < w.heap.size) (hR : RuV D w [.mk 0 uZ []] (.slice q 1 f)) :
    Calls Tryd.prog 13 #[.slice q 1 f] w fun e w' => e = .returned (.tuple #[.agg #[.int .i64 0, .slice none 0 0], .int .i64 70]) ∧ Below w.heap.size w w' := by
  have hREF := Lib.hid fun z (hb : Below w.heap.size w z) => refused_ok (w := z) (ts := [.mk 0 uZ []]) (q := q) (f := f) M1 (fun b h => Nat.lt_of_lt_of_le (hD b h) hb.size) (hR.mono (fun b h => h) (fun b h _ => hb.block b (hD b h))) (by decide) (by decide) (by decide) (fun t ht v z' hv _ => some_any t (by
    simp only [List.mem_cons, List.not_mem_nil, or_false] at ht
    subst ht
    exact .inr (.inr ⟨_, _, rfl⟩)) v z' hv)
  rw [show (if [RT.mk 0 uZ []].all M1 = true then (0 : Int) else 70) = 70 from by decide] at hREF
  exact of_err (by decide) hREF
theorem acc_ex {D : Nat → Prop} {w : World} {q : Option Addr} {c : Nat} {s : ByteArray} {l : List Int} (hD : ∀ b, D b → b < w.heap.size) (hSV : SV D w ex6 (.slice q 6 c)) (hs : s.size ≤ 9223372036854775806) (hl : accL hasU 5 ex6 s.data.toList = l) :
    Calls Tryd.prog 15 #[.agg #[.int .i64 5, .slice q 6 c], .string s] w fun e w' => (∃ v, e = .returned (.tuple #[v, .int .i64 0]) ∧ IV (fun b => w.heap.size ≤ b ∧ b < w'.heap.size) w' l v) ∧ Below w.heap.size w w' := by
  have h := acc_ok (w := w) (st := 5) (s := s) hD hSV exF (by decide) exW hs ex6_ok
  rw [hl] at h
  exact h
end Go.Proofs.YthglciccejholaaDoor
end
