/- Packages dfa, mini, munch. -/
import Derived.Test.YthglciccejholaaDoorProg
import Derived.Test.YthglciccejholaaDoorZ46
import Derived.WalkKit
import Derived.BigFrame
import Derived.WalkMore
import Derived.ScopeJumps
import Derived.StillTailTactics
import Derived.Stop.BytesEq
import Derived.WalkLawsBesides
import Derived.WalkSpells
import Derived.Outline
import Derived.Lib.Walk
import Derived.Lib.Hide
import Derived.Lib.Slices
import Derived.Lib.Strings
import Derived.RegionTactic
import Derived.LoopTactic
import Derived.Below
import Derived.IntWalk
import Derived.Deep.QuietTactic
import Derived.BigQuiet
import Derived.Deep.MidRow
import Derived.Maps.AppendAt
import Derived.Laws.Rows
import Derived.Laws.Tables
import Derived.Deep.WholeRow
import Derived.Deep.Cut
import Derived.Deep.CutRange
import Derived.Lib.SliceRun
import Derived.Laws.MakeOwn
import Derived.Deep.RegionLaw
import Derived.Deep.RegionLawGrows
import Derived.Deep.RegionHeld3
import Derived.RegionCalls
import Derived.Deep.RegionWith
import Derived.Deep.Light
import Derived.Laws.CopyOwn
import Derived.Laws.ResultCell
namespace Go.Proofs.YthglciccejholaaDoor
set_option linter.unusedSimpArgs false
set_option linter.unusedVariables false
set_option maxRecDepth 100000
open Go.RowKit
def bl (s : ByteArray) : List Nat := s.data.toList.map UInt8.toNat
theorem bl_len (s : ByteArray) : (bl s).length = s.size := by simp [bl]
theorem loadAt26 {w : World} {b : Nat} {ds : Array Value} (hc : BX w b ds) (hs : ds.size = 259) : (Instr.loadAt 48 (.pointer (some ⟨b, 0, none⟩))).run Tryd.prog w = .ok (.agg ds) w := by
  have := run_loadAt_mid (P := Tryd.prog) w b 0 48 ds.toList _ (fun j v hj => by rw [Nat.zero_add, hc.cell]; simpa using hj) Tryd.underlying48 rfl (by rw [info26]; simp [hs])
  simpa using this
theorem yieldsIf_load_D {ops : Array Oper} {S : World → Prop} {op : Oper} {a : Act} (hw : Region.wanted op (yielded ops a.tmps) = true) (x : Operand) (ho : op.op = .load 48 x)
    (b : Nat) (hx : a.eval x = .pointer (some ⟨b, 0, none⟩)) {ds : Array Value} (hS : ∀ w, S w → BX w b ds) (hs : ds.size = 259) : YieldsIf Tryd.prog ops S op (.agg ds) a :=
  .inl ⟨hw, fun w hw' => by
    unfold execOp
    simp only [ho, hx, loadAt26 (hS w hw') hs, Sem.run_bind, Result.andThen_ok, Sem.run_pure]⟩

/- The document's Check. -/
theorem may_rows {d : Df} (h : rowsOk d = false) : mayD d = false := by unfold mayD; rw [h]; simp
theorem may_rls {d : Df} (h : rlsOk d = false) : mayD d = false := by unfold mayD; rw [h]; simp
theorem may_cls {d : Df} (h : clsOk d = false) : mayD d = false := by unfold mayD; rw [h]; simp
set_option maxHeartbeats 8000000 in
theorem refcheck_any {D : Nat → Prop} {w : World} {d : Df} {ds : Array Value} {p q : Option Addr} {c f : Nat} (hd : DC d ds p q c f) (hm : DM D w d p q c f) :
    Calls Tryd.prog 21 #[.agg ds] w fun e w' => e = .returned (.int .i64 (chkD d)) ∧ Below w.heap.size w w' := by
  have S0 := Lib.hid ((Below.refl w.heap.size w).alloc (Nat.le_refl _) (.cells ds 48))
  have HB0 : Hid (BX (w.alloc (.cells ds 48)) w.heap.size ds) := Lib.hid (BX.new w ds)
  have c0 : (w.alloc (.cells ds 48)).cell? ⟨w.heap.size, 0, none⟩ = some (.int .i64 d.st) := ((BX.new w ds).cell 0).trans hd.st
  have c257 : (w.alloc (.cells ds 48)).cell? ⟨w.heap.size, 257, none⟩ = some (.slice p d.nx.length c) := ((BX.new w ds).cell 257).trans hd.nx
  have c258 : (w.alloc (.cells ds 48)).cell? ⟨w.heap.size, 258, none⟩ = some (.slice q d.rl.length f) := ((BX.new w ds).cell 258).trans hd.rl
  have HD := Lib.hid hd
  have HM := Lib.hid hm
  obtain ⟨K, hK⟩ : ∃ K, chkD d = K := ⟨_, rfl⟩
  rw [hK]
  have hl1 := hm.l1
  have hl2 := hm.l2
  obtain ⟨n, hn⟩ : ∃ n, d.nx.length = n := ⟨_, rfl⟩
  obtain ⟨n2, hn2⟩ : ∃ n2, d.rl.length = n2 := ⟨_, rfl⟩
  obtain ⟨st, hst⟩ : ∃ st, d.st = st := ⟨_, rfl⟩
  rw [hn] at c257 hl1
  rw [hn2] at c258 hl2
  rw [hst] at c0
  have HN := Lib.hid hn
  have HN2 := Lib.hid hn2
  have HST := Lib.hid hst
  have HK := Lib.hid hK
  clear hd hm hK hn hn2 hst
  go_enter Tryd.func21, Tryd.ntmps21
  by_cases h1 : 2048 < n
  · have h1' : (2048 : Int) < (n : Int) := by omega
    have HF : Hid (K = 3) := Lib.hid (by rw [← HK.out]; unfold chkD tooD; rw [HN.out]; simp [h1])
    go_wp2_with fail
    go_ret
    exact ⟨by rw [HF.out]; rfl, S0.out⟩
  · have h1' : ¬ (2048 : Int) < (n : Int) := by omega
    by_cases h2 : 2048 < n2
    · have h2' : (2048 : Int) < (n2 : Int) := by omega
      have HF : Hid (K = 3) := Lib.hid (by rw [← HK.out]; unfold chkD tooD; rw [HN.out, HN2.out]; simp [h2])
      go_wp2_with fail
      go_ret
      exact ⟨by rw [HF.out]; rfl, S0.out⟩
    · have h2' : ¬ (2048 : Int) < (n2 : Int) := by omega
      have HF : Hid (K = if mayD d = true then 0 else 2) := Lib.hid (by rw [← HK.out]; unfold chkD tooD; rw [HN.out, HN2.out]; simp [h1, h2])
      have HNO : Hid (mayD d = false → K = 2) := Lib.hid fun h => by rw [HF.out, h]; rfl
      by_cases h3 : 1 ≤ n ∧ n2 = n ∧ 0 ≤ st ∧ st < (n : Int)
      · obtain ⟨h3a, rfl, h3c, h3d⟩ := h3
        have h3a' : ¬ (n2 : Int) < 1 := by omega
        have h3b' : ((n2 : Int) != (n2 : Int)) = false := by simp
        have h3c' : ¬ st < 0 := by omega
        have h3d' : ¬ (n2 : Int) ≤ st := by omega
        obtain ⟨p', c', he, hh⟩ := HM.out.nx
        injection he with e1 e2 e3
        subst e1 e3
        have hne : d.nx ≠ [] := by intro e; have := HN.out; rw [e] at this; simp at this; omega
        obtain ⟨b, o, rfl, hb, hc⟩ := hh hne
        have hpos : 0 < d.nx.length := by rw [HN.out]; omega
        obtain ⟨q0, f0, -, hc0⟩ := hc 0 hpos
        have e0 : d.nx[0] = row0 d := by
          clear hc hc0
          obtain ⟨st, cl, nx, rl⟩ := d
          cases nx with
          | nil => simp at hpos
          | cons r t => rfl
        rw [e0, Nat.add_zero] at hc0
        have HC := Lib.hid hc
        have HC0 := Lib.hid hc0
        have HDB := Lib.hid (HM.out.lt b hb)
        have cr : (w.alloc (.cells ds 48)).cell? ⟨b, o, none⟩ = some (.slice q0 (row0 d).length f0) := (cell_same (S0.out.block b HDB.out) _).trans hc0
        obtain ⟨m, hm⟩ : ∃ m, (row0 d).length = m := ⟨_, rfl⟩
        rw [hm] at cr
        have HMM := Lib.hid hm
        have hpI : (0 : Int) < (n2 : Int) := by omega
        have HOK : Hid (mayD d = (decide (m ≤ 256) && clsOk d && (rowsOk d && rlsOk d))) := Lib.hid (by
          unfold mayD d7_stOk
          rw [HN.out, HN2.out, HST.out, HMM.out]
          simp [h3c, h3d])
        clear hh hc hc0 e0 hm hne hpos
        by_cases h4 : 1 ≤ m ∧ m ≤ 256
        · obtain ⟨h4a, h4b⟩ := h4
          have h4a' : ¬ (m : Int) < 1 := by omega
          have h4b' : ¬ (256 : Int) < (m : Int) := by omega
          have HCL : Hid (clsOk d = (List.range 256).all fun i => decide (d.cl i < m)) := Lib.hid (by unfold clsOk; rw [HMM.out])
          go_wp2_with fail
          clear c0 c257 c258 cr
          go_loopw [5] (fun i wr => ∃ j : Nat, i = .int .i64 (j : Nat) ∧ j ≤ 256 ∧ Hid (((List.range 256).take j).all (fun i => decide (d.cl i < m)) = true) ∧ Hid (BX wr w.heap.size ds) ∧ Hid (Below w.heap.size w wr)) (fun i _ => 256 - (intOf i).toNat)
          case atStart => exact ⟨0, rfl, by omega, Lib.hid (by simp), HB0, S0⟩
          case round =>
          clear S0 HB0
          obtain ⟨j, rfl, hj, HAL, HBX, HS⟩ := hrel
          by_cases hlt : j < 256
          · have hjI : (j : Int) < 256 := by omega
            have hjI0 : ¬ (j : Int) < 0 := by omega
            have hcl := HD.out.cl j hlt
            have cx : wr.cell? ⟨w.heap.size, 1 + j, none⟩ = some (.int .u8 (d.cl j : Nat)) := (HBX.out.cell (1 + j)).trans hcl.1
            have hc9 := hcl.2
            have hal := d7_all_take (fun i => decide (d.cl i < m)) (List.range 256) j (by simpa using hlt)
            have HNC := Lib.hid fun h => d7_all_no (p := fun i => decide (d.cl i < m)) (l := List.range 256) (j := j) (by simpa using hlt) h
            have eg : (List.range 256)[j]'(by simpa using hlt) = j := by simp
            rw [HAL.out, Bool.true_and] at hal
            rw [eg] at hal HNC
            clear hcl eg
            generalize d.cl j = x at *
            by_cases hxm : x < m
            · have hx1 : ¬ (m : Int) ≤ (x : Int) := by omega
              have HAL2 : Hid (((List.range 256).take (j + 1)).all (fun i => decide (d.cl i < m)) = true) := Lib.hid (by rw [hal]; simp [hxm])
              clear hal HNC
              go_wp2_with fail
              go_roundw
              case rel => exact ⟨j + 1, by go_num, by omega, HAL2, HBX, HS⟩
              case measure => simp [intOf]; omega
            · have hx1 : (m : Int) ≤ (x : Int) := by omega
              have HRES := Lib.hid (HNO.out (may_cls (by rw [HCL.out]; exact HNC.out (by simp [hxm]))))
              clear hal HNC
              go_wp2_with fail
              go_ret
              exact ⟨by rw [HRES.out]; rfl, HS.out⟩
          · obtain rfl : j = 256 := by omega
            have HALL : Hid (clsOk d = true) := Lib.hid (by
              have := HAL.out
              rw [List.take_of_length_le (by simp)] at this
              rw [HCL.out]; exact this)
            have hjI : ¬ (((256 : Nat) : Int)) < 256 := by omega
            clear HAL HCL
            go_wp2_with fail
            go_loopw [6] (fun i wr => ∃ j : Nat, i = .int .i64 (j : Nat) ∧ j ≤ n2 ∧ Hid ((d.nx.take j).all (rowOk n2 m) = true) ∧ Hid ((d.rl.take j).all (fun r => decide (r < 48)) = true) ∧ Hid (BX wr w.heap.size ds) ∧ Hid (Below w.heap.size w wr)) (fun i _ => n2 - (intOf i).toNat)
            case atStart => exact ⟨0, rfl, by omega, Lib.hid (by simp), Lib.hid (by simp), HBX, HS⟩
            case round =>
            clear HS HBX
            obtain ⟨j, rfl, hj, HAR, HAL, HBX, HS⟩ := hrel
            by_cases hlt : j < n2
            · have hlt1 : j < d.nx.length := by rw [HN.out]; exact hlt
              have hlt2 : j < d.rl.length := by rw [HN2.out]; exact hlt
              obtain ⟨qf, ff, hiv, hcj⟩ := HC.out j hlt1
              have cx : wr.cell? ⟨b, o + j, none⟩ = some (.slice qf d.nx[j].length ff) := (cell_same (HS.out.block b HDB.out) _).trans hcj
              have c257 : wr.cell? ⟨w.heap.size, 257, none⟩ = some (.slice (some ⟨b, o, none⟩) n2 c) := (HBX.out.cell 257).trans (by rw [HD.out.nx, HN.out])
              have c258 : wr.cell? ⟨w.heap.size, 258, none⟩ = some (.slice q n2 f) := (HBX.out.cell 258).trans (by rw [HD.out.rl, HN2.out])
              obtain ⟨p', c', he, hh⟩ := HM.out.rl
              injection he with e1 e2 e3
              subst e1 e3
              obtain ⟨b2, o2, rfl, hb2, hc2⟩ := hh (by intro e; rw [e] at hlt2; simp at hlt2)
              have cy : wr.cell? ⟨b2, o2 + j, none⟩ = some (.int .i64 d.rl[j]) := (cell_same (HS.out.block b2 (HM.out.lt b2 hb2)) _).trans (hc2 j hlt2)
              have HAR1 : Hid ((d.nx.take (j + 1)).all (rowOk n2 m) = rowOk n2 m d.nx[j]) := Lib.hid (by have := d7_all_take (rowOk n2 m) d.nx j hlt1; rwa [HAR.out, Bool.true_and] at this)
              have HAL1 : Hid ((d.rl.take (j + 1)).all (fun r => decide (r < 48)) = decide (d.rl[j] < 48)) := Lib.hid (by have := d7_all_take (fun r => decide (r < 48)) d.rl j hlt2; rwa [HAL.out, Bool.true_and] at this)
              have HNR : Hid (rowOk n2 m d.nx[j] = false → K = 2) := Lib.hid fun h => HNO.out (may_rows (by unfold rowsOk; rw [HN.out, HMM.out]; exact d7_all_no hlt1 h))
              have HNL : Hid (¬ d.rl[j] < 48 → K = 2) := Lib.hid fun h => HNO.out (may_rls (by unfold rlsOk; exact d7_all_no hlt2 (by simpa using h)))
              have hro : rowOk n2 m d.nx[j] = (decide (d.nx[j].length = m) && d.nx[j].all fun x => decide (x < (n2 : Int))) := rfl
              have hfl := HM.out.l3 d.nx[j] (List.getElem_mem hlt1)
              clear hc2 hh HAR HAL
              generalize hsx : rowOk n2 m d.nx[j] = rok at *
              clear hsx
              generalize d.nx[j] = r at *
              generalize d.rl[j] = rr at *
              obtain ⟨rn, hrn⟩ : ∃ rn, r.length = rn := ⟨_, rfl⟩
              rw [hrn] at cx hiv hfl hro hcj
              have HCX : Hid (∀ z, Below w.heap.size w z → z.cell? ⟨b, o + j, none⟩ = some (.slice qf rn ff)) := Lib.hid fun z hz => (cell_same (hz.block b HDB.out) _).trans hcj
              have HRN := Lib.hid hrn
              have HIV := Lib.hid hiv
              have HRO := Lib.hid hro
              have hltI : (j : Int) < (n2 : Int) := by omega
              have hjI : ¬ (j : Int) < 0 := by omega
              clear hiv hrn hro hlt1 hlt2 hcj
              by_cases hrm : rn = m
              · subst hrm
                have hrn' : ((rn : Int) != (rn : Int)) = false := by simp
                by_cases hr48 : rr < 48
                · have hr48' : ¬ (48 : Int) ≤ rr := by omega
                  have HAL2 : Hid ((d.rl.take (j + 1)).all (fun r => decide (r < 48)) = true) := Lib.hid (by rw [HAL1.out]; simp [hr48])
                  go_wp2_with fail
                  clear cx c257 c258 cy HAL1
                  go_loopw [7] (fun i wr => ∃ x : Nat, i = .int .i64 (x : Nat) ∧ x ≤ rn ∧ Hid ((r.take x).all (fun x => decide (x < (n2 : Int))) = true) ∧ Hid (BX wr w.heap.size ds) ∧ Hid (Below w.heap.size w wr)) (fun i _ => rn - (intOf i).toNat)
                  case atStart => exact ⟨0, rfl, by omega, Lib.hid (by simp), HBX, HS⟩
                  case round =>
                  clear HS HBX
                  obtain ⟨x, rfl, hx, HAX, HBX, HS⟩ := hrel
                  have c257 : wr.cell? ⟨w.heap.size, 257, none⟩ = some (.slice (some ⟨b, o, none⟩) n2 c) := (HBX.out.cell 257).trans (by rw [HD.out.nx, HN.out])
                  by_cases hxl : x < rn
                  · have hxl2 : x < r.length := by rw [HRN.out]; exact hxl
                    obtain ⟨p', c', he, hh⟩ := HIV.out
                    injection he with e1 e2 e3
                    subst e1 e3
                    obtain ⟨bf, of, rfl, hbf, hcf⟩ := hh (by intro e; rw [e] at hxl2; simp at hxl2)
                    have cz : wr.cell? ⟨bf, of + x, none⟩ = some (.int .i64 r[x]) := (cell_same (HS.out.block bf (HM.out.lt bf hbf)) _).trans (hcf x hxl2)
                    have cx := HCX.out wr HS.out
                    have hak := d7_all_take (fun x => decide (x < (n2 : Int))) r x hxl2
                    rw [HAX.out, Bool.true_and] at hak
                    have hnok := fun h => d7_all_no (p := fun x => decide (x < (n2 : Int))) (l := r) hxl2 h
                    generalize r[x] = y at *
                    have hkI : ¬ (x : Int) < 0 := by omega
                    have hklI : (x : Int) < (rn : Int) := by omega
                    clear hh hcf
                    by_cases hy : y < (n2 : Int)
                    · have hy1 : ¬ (n2 : Int) ≤ y := by omega
                      have HAK : Hid ((r.take (x + 1)).all (fun x => decide (x < (n2 : Int))) = true) := Lib.hid (by rw [hak]; simp [hy])
                      clear hak hnok
                      go_wp2_with fail
                      go_roundw
                      case rel => exact ⟨x + 1, by go_num, by omega, HAK, HBX, HS⟩
                      case measure => simp [intOf]; omega
                    · have hy1 : (n2 : Int) ≤ y := by omega
                      have HRES := Lib.hid (HNR.out (by rw [HRO.out, hnok (by simp [hy1])]; simp))
                      clear hak hnok
                      go_wp2_with fail
                      go_ret
                      exact ⟨by rw [HRES.out]; rfl, HS.out⟩
                  · obtain rfl : x = rn := by omega
                    have hall : r.all (fun x => decide (x < (n2 : Int))) = true := by
                      have := HAX.out
                      rwa [← HRN.out, List.take_length] at this
                    have HAR3 : Hid ((d.nx.take (j + 1)).all (rowOk n2 x) = true) := Lib.hid (by rw [HAR1.out, HRO.out, hall]; simp)
                    have hklI : ¬ (x : Int) < (x : Int) := by omega
                    clear hall HAX HAR1 HNR HRO
                    go_wp2_with fail
                    go_roundw
                    case rel => exact ⟨j + 1, by go_num, by omega, HAR3, HAL2, HBX, HS⟩
                    case measure => simp [intOf]; omega
                · have hr48' : (48 : Int) ≤ rr := by omega
                  have HRES := Lib.hid (HNL.out hr48)
                  go_wp2_with fail
                  go_ret
                  exact ⟨by rw [HRES.out]; rfl, HS.out⟩
              · have hrm' : ((rn : Int) != (m : Int)) = true := by simp; omega
                have HRES := Lib.hid (HNR.out (by rw [HRO.out]; simp [hrm]))
                go_wp2_with fail
                go_ret
                exact ⟨by rw [HRES.out]; rfl, HS.out⟩
            · obtain rfl : j = n2 := by omega
              have HRES : Hid (K = 0) := Lib.hid (by
                rw [HF.out, HOK.out, HALL.out]
                have h5 : rowsOk d = true := by
                  have := HAR.out
                  rw [List.take_of_length_le (by rw [HN.out]; omega)] at this
                  unfold rowsOk; rw [HN.out, HMM.out]; exact this
                have h6 : rlsOk d = true := by
                  have := HAL.out
                  rw [List.take_of_length_le (by rw [HN2.out]; omega)] at this
                  exact this
                rw [h5, h6]; simp [h4b])
              have hltI : ¬ (j : Int) < (j : Int) := by omega
              clear HAR HAL
              go_wp2_with fail
              go_ret
              exact ⟨by rw [HRES.out]; rfl, HS.out⟩
        · have HRES : Hid (K = 2) := Lib.hid (HNO.out (by
            rw [HOK.out]
            by_cases h5 : m ≤ 256
            · have h6 : m = 0 := by omega
              have : clsOk d = false := by
                unfold clsOk
                rw [HMM.out, h6]
                exact d7_all_no (j := 0) (by simp) (by simp)
              rw [this]; simp
            · simp [h5]))
          by_cases h5 : m < 1
          · have h5' : (m : Int) < 1 := by omega
            go_wp2_with fail
            go_ret
            exact ⟨by rw [HRES.out]; rfl, S0.out⟩
          · have h5' : ¬ (m : Int) < 1 := by omega
            have h6' : (256 : Int) < (m : Int) := by omega
            go_wp2_with fail
            go_ret
            exact ⟨by rw [HRES.out]; rfl, S0.out⟩
      · have HRES : Hid (K = 2) := Lib.hid (HNO.out (by
          unfold mayD d7_stOk
          rw [HN.out, HN2.out, HST.out]
          by_cases g1 : n = n2
          · by_cases g2 : 0 ≤ st
            · by_cases g3 : st < (n : Int)
              · exact absurd ⟨by omega, g1.symm, g2, g3⟩ h3
              · simp [g3]
            · simp [g2]
          · simp [g1]))
        by_cases g0 : n < 1
        · have g0' : (n : Int) < 1 := by omega
          go_wp2_with fail
          go_ret
          exact ⟨by rw [HRES.out]; rfl, S0.out⟩
        · have g0' : ¬ (n : Int) < 1 := by omega
          by_cases g1 : n2 = n
          · have g1' : ((n2 : Int) != (n : Int)) = false := by simp [g1]
            by_cases g2 : st < 0
            · go_wp2_with fail
              go_ret
              exact ⟨by rw [HRES.out]; rfl, S0.out⟩
            · have g3 : (n : Int) ≤ st := by
                by_cases g4 : (n : Int) ≤ st
                · exact g4
                · exact absurd ⟨by omega, g1, by omega, by omega⟩ h3
              go_wp2_with fail
              go_ret
              exact ⟨by rw [HRES.out]; rfl, S0.out⟩
          · have g1' : ((n2 : Int) != (n : Int)) = true := by simp; omega
            go_wp2_with fail
            go_ret
            exact ⟨by rw [HRES.out]; rfl, S0.out⟩
end Go.Proofs.YthglciccejholaaDoor
