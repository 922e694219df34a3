/- RopeCuts: the walk. -/
import Derived.Test.YtagjeckgfjddmaaSt
namespace Go.Proofs.Ytagjeckgfjddmaa
set_option linter.unusedSimpArgs false
set_option linter.unusedVariables false
open Go.RowKit

theorem new_tree (s : ByteArray) (w : World) (hs : s.size ≤ 65536) : Calls Try.prog 12 #[.string s] w (Made (fun o => TreeOf s o ∧ (lvs o).length = (s.size + 63) / 64) w) :=
  (new_ok s w hs).mono fun _ _ ⟨b, o, h1, h2, h3, h4⟩ => ⟨b, o, h1, h2, ⟨h3.tree hs, h3.2.2⟩, h4⟩
theorem ext_join (s : ByteArray) (a b c : Nat) (h : a ≤ b) (h2 : b ≤ c) (h3 : c ≤ s.size) : s.extract a b ++ s.extract b c = s.extract a c := by
  apply ByteArray.ext
  apply Array.toList_inj.mp
  rw [ByteArray.data_append, Array.toList_append, ByteArray.data_extract, ByteArray.data_extract, ByteArray.data_extract]
  simp only [Array.toList_extract, List.extract_eq_drop_take']
  have : (s.data.toList.take c) = s.data.toList.take b ++ (s.data.toList.take c).drop b := by
    conv => lhs; rw [← List.take_append_drop b (s.data.toList.take c), List.take_take, Nat.min_eq_left h2]
  conv => rhs; rw [this]
  rw [List.drop_append_of_le_length (by rw [List.length_take, ba_len]; omega)]

set_option maxRecDepth 100000 in
theorem cuts_long (x : ByteArray) (f g m : Int) (w : World) (hx : 65536 < x.size) :
    Calls Try.prog 9 #[.string x, sp f g, .int .i64 m] w fun r w' => r = .returned (.bool true) ∧ Below w.heap.size w w' := by
  obtain ⟨e0, e1, ez⟩ := SpAt w f g
  have hL := Lib.hid ((Below.refl w.heap.size w).alloc (Nat.le_refl _) (.cells #[.int .i64 f, .int .i64 g] 32))
  go_enter Try.func9, Try.ntmps9
  go_wp2_with fail
  go_quiet (fail)
  go_wp2_with fail
  refine (new_long x _ hx).mono ?_
  rintro _ _ ⟨rfl, rfl⟩
  go_wp2_with fail
  refine (alive_any _).mono ?_
  rintro _ w2 ⟨rfl, hb⟩
  go_wp2
  go_ret
  exact ⟨rfl, (below_drewN hL.out _).trans (hb.mono (below_drewN hL.out _).size)⟩
set_option maxHeartbeats 1000000 in
set_option maxRecDepth 100000 in
theorem cuts_out (x : ByteArray) (f g m : Int) (w : World) (hx : x.size ≤ 65536) (h : ¬ (0 ≤ f ∧ f ≤ m ∧ m ≤ g ∧ g ≤ x.size)) :
    Calls Try.prog 9 #[.string x, sp f g, .int .i64 m] w fun r w' => r = .returned (.bool true) ∧ Below w.heap.size w w' := by
  obtain ⟨e0, e1, ez⟩ := SpAt w f g
  have hL := Lib.hid ((Below.refl w.heap.size w).alloc (Nat.le_refl _) (.cells #[.int .i64 f, .int .i64 g] 32))
  have key : ∀ (p1 p2 p3 p4 : Bool), decide (f < 0) = p1 → decide (m < f) = p2 → decide (g < m) = p3 → decide ((x.size : Int) < g) = p4 → (p1 || p2 || p3 || p4) = true →
      Calls Try.prog 9 #[.string x, sp f g, .int .i64 m] w fun r w' => r = .returned (.bool true) ∧ Below w.heap.size w w' := by
    intro p1 p2 p3 p4 d1 d2 d3 d4 hp
    have hp' := Lib.hid hp
    clear h hp
    go_enter Try.func9, Try.ntmps9
    go_wp2_with fail
    go_quiet (fail)
    go_wp2_with fail
    refine (new_tree x _ hx).mono ?_
    rintro _ w1 ⟨b, o, rfl, hr, hq, hb⟩
    have hL1 := Lib.hid ((below_drewN hL.out nq).trans (hb.mono (below_drewN hL.out nq).size))
    clear hb hr hq
    cases p1 <;> cases p2 <;> cases p3 <;> cases p4 <;> first
      | (exfalso; exact absurd hp'.out (by decide))
      | (go_wp2_with fail
         refine (alive_any _).mono ?_
         rintro _ w2 ⟨rfl, hb⟩
         go_wp2
         go_ret
         exact ⟨rfl, hL1.out.trans (hb.mono hL1.out.size)⟩)
  exact key _ _ _ _ rfl rfl rfl rfl (by simp; omega)

set_option maxHeartbeats 4000000 in
set_option maxRecDepth 100000 in
theorem cuts_in (x : ByteArray) (f g m : Nat) (w : World) (hx : x.size ≤ 65536) (hfm : f ≤ m) (hmg : m ≤ g) (hg : g ≤ x.size) :
    Calls Try.prog 9 #[.string x, sp f g, .int .i64 m] w fun r w' => r = .returned (.bool true) ∧ Below w.heap.size w w' := by
  obtain ⟨e0, e1, ez⟩ := SpAt w f g
  have d1 : decide ((f : Int) < 0) = false := by simp
  have d2 : decide (m < f) = false := by simp; omega
  have d3 : decide (g < m) = false := by simp; omega
  have d4 : decide (x.size < g) = false := by simp; omega
  have hsl := Lib.hid (fun (b : Nat) (o : Option T) (a c : Nat) (wz : World) (hr : RopeAt wz b o) (q : TreeOf x o) (h1 : a ≤ c) (h2 : c ≤ x.size) => slice_in b o x a c wz hr q h1 h2)
  have hby := Lib.hid (fun (b : Nat) (o : Option T) (n : Nat) (wz : World) (hr : RopeAt wz b o) (q : TreeOf x o) (h : n < x.size) => byte_in b o x n wz hr q h)
  have hj := Lib.hid (ext_join x f m g hfm hmg hg)
  have hsz := Lib.hid (show (x.extract f g).size = g - f by simp; omega)
  have hS := Lib.hid ((St.new w).alloc (.cells #[.int .i64 f, .int .i64 g] 32))
  go_enter Try.func9, Try.ntmps9
  go_wp2_with fail
  go_quiet (fail)
  have S0 := Lib.hid (hS.out.drewN nq)
  clear hS e0 e1 ez
  go_wp2_with fail
  refine (new_tree x _ hx).mono ?_
  rintro _ w1 ⟨b, o, rfl, hr, ⟨hq, -⟩, hb⟩
  have S1 := Lib.hid (((S0.out).up hb).add hr)
  clear S0
  clear hb
  clear hr
  have Q := Lib.hid hq
  clear hq
  go_wp2_with fail
  refine (hsl.out b o f g _ S1.out.r0 Q.out (by omega) hg).mono ?_
  rintro _ w2 ⟨rfl, hb⟩
  have S2 := Lib.hid (((S1.out).up hb))
  clear S1
  clear hb
  go_wp2_with fail
  refine (hsl.out b o f m _ S2.out.r0 Q.out hfm (by omega)).mono ?_
  rintro _ w3 ⟨rfl, hb⟩
  have S3 := Lib.hid (((S2.out).up hb))
  clear S2
  clear hb
  go_wp2_with fail
  refine (hsl.out b o m g _ S3.out.r0 Q.out hmg hg).mono ?_
  rintro _ w4 ⟨rfl, hb⟩
  have S4 := Lib.hid (((S3.out).up hb))
  clear S3
  clear hb
  obtain ⟨u, hu⟩ : ∃ u, x.extract f g = u := ⟨_, rfl⟩
  obtain ⟨p, hp⟩ : ∃ p, x.extract f m = p := ⟨_, rfl⟩
  obtain ⟨r, hr⟩ : ∃ r, x.extract m g = r := ⟨_, rfl⟩
  rw [hu] at hj hsz ⊢
  rw [hp] at hj ⊢
  rw [hr] at hj ⊢
  have hu' := Lib.hid hu
  have hps : p.size ≤ 65536 := by rw [← hp]; simp; omega
  have hrs : r.size ≤ 65536 := by rw [← hr]; simp; omega
  have hus : u.size ≤ 65536 := by rw [← hu]; simp; omega
  clear hu hp hr d1 d2 d3 d4
  have t1 := hj.out
  have t2 : ((u.size : Int) != (g : Int) - (f : Int)) = false := by have := hsz.out; simp; omega
  have hsum : ¬ 9223372036854775807 < p.size + r.size := by omega
  go_wp2_with fail
  clear t1 t2 hsum
  go_loopw [17] (fun i wr => ∃ k : Nat, k ≤ u.size ∧ i = .int .i64 k ∧ St w wr [(b, o)] []) (fun i _ => u.size - (intOf i).toNat)
  case atStart => exact ⟨0, Nat.zero_le _, rfl, S4.out⟩
  case round =>
    clear S4
    obtain ⟨k, hk, rfl, hS⟩ := hrel
    have S5 := Lib.hid hS
    clear hS
    by_cases hk2 : k < u.size ∧ k < 300
    · obtain ⟨hk2, hk3⟩ := hk2
      have hget : u.data.toList[k]? = x.data.toList[f + k]? := by
        rw [← hu'.out, ByteArray.data_extract, Array.toList_extract, List.extract_eq_drop_take', List.getElem?_drop, List.getElem?_take_of_lt (by have := hsz.out; omega)]
      have hb1 := get_byte u k hk2 x.data.toList (f + k) hget
      have hbk := hby.out b o (f + k)
      generalize (((x.data.toList[f + k]?).getD 0).toNat : Int) = z at *
      rw [Int.natCast_add] at hbk
      have hbk' := Lib.hid hbk
      have t3 : (z != ((u[k]'hk2).toNat : Int)) = false := by simp [hb1]
      have i1 : (k : Int) < (u.size : Int) := by omega
      have hlt : f + k < x.size := by have := hsz.out; omega
      clear hbk hget hb1
      go_wp2_with fail
      refine (hbk'.out _ S5.out.r0 Q.out hlt).mono ?_
      rintro _ w5 ⟨rfl, hb⟩
      have S6 := Lib.hid (((S5.out).up hb))
      clear S5
      clear hb
      go_wp2
      exact ⟨⟨k + 1, by omega, by go_num, S6.out⟩, by simp [intOf]; omega⟩
    · by_cases hk3 : k < u.size
      · have hk4 : ¬ k < 300 := by omega
        clear hk2
        go_wp2_with fail
        refine (alive_any _).mono ?_
        rintro _ w9 ⟨rfl, hb⟩
        go_wp2
        go_ret
        exact ⟨rfl, (S5.out.up hb).1⟩
      · clear hk2
        go_wp2_with fail
        refine (alive_any _).mono ?_
        rintro _ w9 ⟨rfl, hb⟩
        go_wp2
        go_ret
        exact ⟨rfl, (S5.out.up hb).1⟩

theorem cuts_walk (x : ByteArray) (f g m : Int) (w : World) :
    Calls Try.prog 9 #[.string x, sp f g, .int .i64 m] w fun r w' => r = .returned (.bool true) ∧ Below w.heap.size w w' := by
  by_cases hx : 65536 < x.size
  · exact cuts_long x f g m w hx
  · by_cases h : 0 ≤ f ∧ f ≤ m ∧ m ≤ g ∧ g ≤ x.size
    · have := cuts_in x f.toNat g.toNat m.toNat w (by omega) (by omega) (by omega) (by omega)
      rwa [show ((f.toNat : Nat) : Int) = f by omega, show ((g.toNat : Nat) : Int) = g by omega, show ((m.toNat : Nat) : Int) = m by omega] at this
    · exact cuts_out x f g m w (by omega) h

end Go.Proofs.Ytagjeckgfjddmaa
