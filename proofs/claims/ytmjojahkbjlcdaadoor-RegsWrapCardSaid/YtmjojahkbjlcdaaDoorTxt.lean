/- Classes: how a byte is written, a set's stretches and their text; what a text says. No program, no world. -/
import Derived.Test.YtmjojahkbjlcdaaDoorX2
namespace Go.Proofs.YtmjojahkbjlcdaaDoor
set_option linter.unusedSimpArgs false
set_option linter.unusedVariables false
set_option maxRecDepth 100000

/-- One of the five signs. -/
def sp (c : UInt8) : Bool := c == 92 || c == 91 || c == 93 || c == 94 || c == 45
/-- How a byte is written. -/
def wr (c : UInt8) : List UInt8 := if c = 10 then [92, 110] else if c = 9 then [92, 116] else if c = 13 then [92, 114] else if sp c then [92, c] else [c]
theorem wr_len (c : UInt8) : 1 ≤ (wr c).length ∧ (wr c).length ≤ 2 := by
  unfold wr
  by_cases h1 : c = 10
  · rw [if_pos h1]; simp
  · by_cases h2 : c = 9
    · rw [if_neg h1, if_pos h2]; simp
    · by_cases h3 : c = 13
      · rw [if_neg h1, if_neg h2, if_pos h3]; simp
      · by_cases h4 : sp c = true
        · rw [if_neg h1, if_neg h2, if_neg h3, if_pos h4]; simp
        · rw [if_neg h1, if_neg h2, if_neg h3, if_neg h4]; simp
/-- How the number k is written. -/
def wn (k : Nat) : List UInt8 := wr (UInt8.ofNat k)
theorem wn_len (k : Nat) : 1 ≤ (wn k).length ∧ (wn k).length ≤ 2 := wr_len _

/-- The last stretch goes on up to k. -/
def bump : List (Nat × Nat) → Nat → List (Nat × Nat)
  | [], _ => []
  | [(a, _)], k => [(a, k)]
  | x :: y :: r, k => x :: bump (y :: r) k
theorem bump_snoc : ∀ (R : List (Nat × Nat)) (a b k : Nat), bump (R ++ [(a, b)]) k = R ++ [(a, k)]
  | [], a, b, k => rfl
  | [x], a, b, k => rfl
  | x :: y :: r, a, b, k => by
    have := bump_snoc (y :: r) a b k
    simp only [List.cons_append] at this ⊢
    simp only [bump]
    rw [this]
/-- The stretches of the numbers below k that are in f. -/
def runsF (f : Nat → Bool) : Nat → List (Nat × Nat)
  | 0 => []
  | k + 1 => if f k then (if decide (0 < k) && f (k - 1) then bump (runsF f k) k else runsF f k ++ [(k, k)]) else runsF f k
theorem runs_no (f : Nat → Bool) (k : Nat) (h : f k = false) : runsF f (k + 1) = runsF f k := by simp [runsF, h]
theorem runs_new (f : Nat → Bool) (k : Nat) (h : f k = true) (h' : k = 0 ∨ f (k - 1) = false) : runsF f (k + 1) = runsF f k ++ [(k, k)] := by
  rcases h' with rfl | h'
  · simp [runsF, h]
  · simp [runsF, h, h']
theorem runs_last (f : Nat → Bool) : ∀ k, 0 < k → f (k - 1) = true → ∃ R a, runsF f k = R ++ [(a, k - 1)] ∧ a ≤ k - 1
  | 0, h, _ => absurd h (by omega)
  | k + 1, _, h => by
    simp only [Nat.add_sub_cancel] at h ⊢
    by_cases hp : 0 < k ∧ f (k - 1) = true
    · obtain ⟨R, a, hR, ha⟩ := runs_last f k hp.1 hp.2
      refine ⟨R, a, ?_, by omega⟩
      simp only [runsF, h, hp.1, hp.2, decide_true, Bool.and_self, if_true]
      rw [hR, bump_snoc]
    · refine ⟨runsF f k, k, runs_new f k h ?_, Nat.le_refl _⟩
      by_cases hk : k = 0
      · exact .inl hk
      · right
        cases hv : f (k - 1)
        · rfl
        · exact absurd ⟨by omega, hv⟩ hp
theorem runs_on (f : Nat → Bool) (k : Nat) (h0 : 0 < k) (h : f k = true) (h' : f (k - 1) = true) (R : List (Nat × Nat)) (a : Nat) (hR : runsF f k = R ++ [(a, k - 1)]) : runsF f (k + 1) = R ++ [(a, k)] := by
  simp only [runsF, h, h0, h', decide_true, Bool.and_self, if_true]
  rw [hR, bump_snoc]
theorem runs_count (f : Nat → Bool) : ∀ k, (runsF f k).length ≤ k
  | 0 => by simp [runsF]
  | k + 1 => by
    have ih := runs_count f k
    cases h : f k
    · rw [runs_no f k h]; omega
    · by_cases hp : 0 < k ∧ f (k - 1) = true
      · obtain ⟨R, a, hR, ha⟩ := runs_last f k hp.1 hp.2
        rw [runs_on f k hp.1 h hp.2 R a hR]; rw [hR] at ih; simp at ih ⊢; omega
      · rw [runs_new f k h (by by_cases hk : k = 0; exact .inl hk; right; cases hv : f (k - 1); rfl; exact absurd ⟨by omega, hv⟩ hp)]
        simp; omega
/-- Each stretch lies below k; a number is in f just if it lies in one. -/
theorem runs_le (f : Nat → Bool) : ∀ k, ∀ x ∈ runsF f k, x.1 ≤ x.2 ∧ x.2 < k
  | 0 => by simp [runsF]
  | k + 1 => by
    have ih := runs_le f k
    intro x hx
    cases h : f k
    · rw [runs_no f k h] at hx; have := ih x hx; omega
    · by_cases hp : 0 < k ∧ f (k - 1) = true
      · obtain ⟨R, a, hR, ha⟩ := runs_last f k hp.1 hp.2
        rw [runs_on f k hp.1 h hp.2 R a hR] at hx
        rcases List.mem_append.1 hx with hx | hx
        · have := ih x (by rw [hR]; exact List.mem_append_left _ hx); omega
        · simp at hx; subst hx; simp; omega
      · rw [runs_new f k h (by by_cases hk : k = 0; exact .inl hk; right; cases hv : f (k - 1); rfl; exact absurd ⟨by omega, hv⟩ hp)] at hx
        rcases List.mem_append.1 hx with hx | hx
        · have := ih x hx; omega
        · simp at hx; subst hx; simp
def inR (R : List (Nat × Nat)) (n : Nat) : Bool := R.any fun x => decide (x.1 ≤ n) && decide (n ≤ x.2)
theorem inR_app (R S : List (Nat × Nat)) (n : Nat) : inR (R ++ S) n = (inR R n || inR S n) := by simp [inR]
theorem inR_one (a b n : Nat) : inR [(a, b)] n = (decide (a ≤ n) && decide (n ≤ b)) := by simp [inR]
theorem runs_in (f : Nat → Bool) : ∀ k n, inR (runsF f k) n = (decide (n < k) && f n)
  | 0, n => by simp [runsF, inR]
  | k + 1, n => by
    have ih := runs_in f k n
    cases h : f k
    · rw [runs_no f k h, ih]
      by_cases hn : n = k
      · subst hn; simp [h]
      · by_cases hl : n < k
        · simp [hl, show n < k + 1 by omega]
        · simp [hl, show ¬ n < k + 1 by omega]
    · by_cases hp : 0 < k ∧ f (k - 1) = true
      · obtain ⟨R, a, hR, ha⟩ := runs_last f k hp.1 hp.2
        rw [runs_on f k hp.1 h hp.2 R a hR, inR_app, inR_one]
        rw [hR, inR_app, inR_one] at ih
        by_cases hn : n = k
        · subst hn; simp [h]; right; omega
        · by_cases hl : n < k
          · rw [show decide (n < k) = true by simpa using hl] at ih
            rw [show decide (n < k + 1) = true by simp; omega]
            rw [show decide (n ≤ k) = decide (n ≤ k - 1) by rw [decide_eq_decide]; omega]
            exact ih
          · rw [show decide (n < k) = false by simpa using hl] at ih
            rw [show decide (n < k + 1) = false by simp; omega]
            rw [show decide (n ≤ k) = decide (n ≤ k - 1) by rw [decide_eq_decide]; omega]
            simpa using ih
      · rw [runs_new f k h (by by_cases hk : k = 0; exact .inl hk; right; cases hv : f (k - 1); rfl; exact absurd ⟨by omega, hv⟩ hp), inR_app, inR_one, ih]
        by_cases hn : n = k
        · subst hn; simp [h]
        · by_cases hl : n < k
          · simp [hl, show n < k + 1 by omega]
            intro h1 h2; omega
          · simp [hl, show ¬ n < k + 1 by omega]
            omega

/-- The text of a stretch. -/
def rt (x : Nat × Nat) : List UInt8 := if x.1 = x.2 then wn x.1 else if x.2 - x.1 = 1 then wn x.1 ++ wn x.2 else wn x.1 ++ [45] ++ wn x.2
def txt : List (Nat × Nat) → List UInt8
  | [] => []
  | x :: r => rt x ++ txt r
theorem txt_app : ∀ R S, txt (R ++ S) = txt R ++ txt S
  | [], S => rfl
  | x :: r, S => by simp only [List.cons_append, txt, txt_app r S, List.append_assoc]
theorem txt_one (x : Nat × Nat) : txt [x] = rt x := by simp [txt]
theorem txt_len (f : Nat → Bool) : ∀ k, (txt (runsF f k)).length ≤ 2 * cntF f k
  | 0 => by simp [runsF, txt]
  | k + 1 => by
    have ih := txt_len f k
    have hw := wn_len k
    cases h : f k
    · rw [runs_no f k h]; simp [cntF, h]; exact ih
    · by_cases hp : 0 < k ∧ f (k - 1) = true
      · obtain ⟨R, a, hR, ha⟩ := runs_last f k hp.1 hp.2
        have hw' := wn_len (k - 1)
        rw [runs_on f k hp.1 h hp.2 R a hR, txt_app, txt_one]
        rw [hR, txt_app, txt_one] at ih
        simp only [cntF, h, Bool.toNat_true]
        simp only [List.length_append] at ih ⊢
        have key : (rt (a, k)).length ≤ (rt (a, k - 1)).length + 2 := by
          unfold rt
          simp only
          by_cases h1 : a = k - 1
          · subst h1
            rw [if_neg (by omega), if_pos (by omega), if_pos rfl]
            simp; omega
          · by_cases h2 : k - 1 - a = 1
            · rw [if_neg (by omega), if_neg (by omega), if_neg h1, if_pos h2]
              simp; omega
            · rw [if_neg (by omega), if_neg (by omega), if_neg h1, if_neg h2]
              simp; omega
        omega
      · rw [runs_new f k h (by by_cases hk : k = 0; exact .inl hk; right; cases hv : f (k - 1); rfl; exact absurd ⟨by omega, hv⟩ hp), txt_app, txt_one]
        simp only [cntF, h, Bool.toNat_true]
        simp [rt]; omega

/-- A set's class. -/
def pr (f : Nat → Bool) : List UInt8 := if 128 < cntF f 256 then [91, 94] ++ txt (runsF (fun b => !f b) 256) ++ [93] else [91] ++ txt (runsF f 256) ++ [93]
theorem pr_len (f : Nat → Bool) : (pr f).length ≤ 259 := by
  unfold pr
  have h1 := txt_len f 256
  have h2 := txt_len (fun b => !f b) 256
  have h3 := cnt_not f 256
  split
  · simp; omega
  · simp; omega

/-! ## Reading. -/
/-- What a backslash and a byte behind it write. -/
def mt (d : UInt8) : Option UInt8 := if d = 110 then some 10 else if d = 116 then some 9 else if d = 114 then some 13 else if sp d then some d else none
/-- A byte as a class writes it. -/
def one : List UInt8 → Option (UInt8 × List UInt8)
  | [] => none
  | c :: r => if c = 92 then (match r with
      | [] => none
      | d :: q => (mt d).map fun x => (x, q))
    else if sp c then none else some (c, r)
def itm (l : List UInt8) : Option (UInt8 × UInt8 × List UInt8) :=
  match one l with
  | none => none
  | some (a, []) => some (a, a, [])
  | some (a, d :: q) => if d = 45 then (match one q with
      | none => none
      | some (b, t) => if a ≤ b then some (a, b, t) else none)
    else some (a, a, d :: q)
theorem one_len (l : List UInt8) (c : UInt8) (r : List UInt8) (h : one l = some (c, r)) : ∃ n, (n = 1 ∨ n = 2) ∧ n ≤ l.length ∧ r = l.drop n := by
  cases l with
  | nil => simp [one] at h
  | cons x q =>
    simp only [one] at h
    split at h
    · cases q with
      | nil => simp at h
      | cons d q =>
        simp only [Option.map_eq_some_iff] at h
        obtain ⟨y, hy, he⟩ := h
        simp at he
        exact ⟨2, .inr rfl, by simp, by rw [← he.2]; rfl⟩
    · split at h
      · simp at h
      · simp at h
        exact ⟨1, .inl rfl, by simp, by rw [← h.2]; rfl⟩
theorem itm_len (l : List UInt8) (a b : UInt8) (r : List UInt8) (h : itm l = some (a, b, r)) : r.length < l.length := by
  unfold itm at h
  split at h
  · simp at h
  · rename_i a' h1
    obtain ⟨n, hn, hl, hr⟩ := one_len _ _ _ h1
    simp at h
    rw [h.2.2]
    simp; omega
  · rename_i a' d q h1
    obtain ⟨n, hn, hl, hr⟩ := one_len _ _ _ h1
    have hq : (d :: q).length = l.length - n := by rw [hr]; simp
    simp at hq
    split at h
    · split at h
      · simp at h
      · rename_i b' t h2
        obtain ⟨m, hm, hl2, hr2⟩ := one_len _ _ _ h2
        split at h
        · simp at h
          rw [← h.2.2, hr2]
          simp; omega
        · simp at h
    · simp at h
      rw [← h.2.2]
      simp; omega

def orF (f g : Nat → Bool) (n : Nat) : Bool := f n || g n
/-- The items up to the closing sign; what they say, and the rest. -/
def body : Nat → List UInt8 → (Nat → Bool) → Option ((Nat → Bool) × List UInt8)
  | 0, _, _ => none
  | n + 1, l, f => match l with
    | [] => none
    | c :: r => if c = 93 then some (f, r) else match itm (c :: r) with
      | none => none
      | some (a, b, q) => body n q (orF f (rangeG a b))
where rangeG (a b : UInt8) (n : Nat) : Bool := decide (a.toNat ≤ n) && decide (n < a.toNat + (b.toNat + 1 - a.toNat))
theorem body_fuel : ∀ (n m : Nat) (l : List UInt8) (f : Nat → Bool), l.length < n → n ≤ m → body n l f = body m l f
  | 0, _, _, _, h, _ => absurd h (by omega)
  | n + 1, m, l, f, h, hm => by
    obtain ⟨m', rfl⟩ : ∃ m', m = m' + 1 := ⟨m - 1, by omega⟩
    cases l with
    | nil => rfl
    | cons c r =>
      simp only [body]
      split
      · rfl
      · split
        · rfl
        · rename_i a b q hq
          have := itm_len _ _ _ _ hq
          exact body_fuel n m' q _ (by simp at this h; omega) (by omega)
/-- What follows up to the closing sign, of what was said so far. -/
def bd (l : List UInt8) (f : Nat → Bool) : Option ((Nat → Bool) × List UInt8) := body (l.length + 1) l f
theorem bd_nil (f : Nat → Bool) : bd [] f = none := rfl
theorem bd_end (r : List UInt8) (f : Nat → Bool) : bd (93 :: r) f = some (f, r) := by simp [bd, body]
theorem bd_item (c : UInt8) (r : List UInt8) (f : Nat → Bool) (hc : c ≠ 93) (a b : UInt8) (q : List UInt8) (h : itm (c :: r) = some (a, b, q)) : bd (c :: r) f = bd q (orF f (body.rangeG a b)) := by
  have hl := itm_len _ _ _ _ h
  have e : body ((c :: r).length + 1) (c :: r) f = body (c :: r).length q (orF f (body.rangeG a b)) := by
    show body ((c :: r).length + 1) (c :: r) f = _
    simp only [body, hc, if_false, h]
  unfold bd
  rw [e]
  exact (body_fuel _ _ _ _ (by omega) (by omega)).symm
theorem bd_bad (c : UInt8) (r : List UInt8) (f : Nat → Bool) (hc : c ≠ 93) (h : itm (c :: r) = none) : bd (c :: r) f = none := by
  unfold bd; simp only [body, hc, if_false, h]
def noF (f : Nat → Bool) (n : Nat) : Bool := !f n
/-- What a class that begins here says, and what stands behind it. -/
def cls (l : List UInt8) : Option ((Nat → Bool) × List UInt8) :=
  match l with
  | [] => none
  | c :: r => if c = 91 then (match r with
      | [] => none
      | d :: q => if d = 94 then (bd q fun _ => false).map fun x => (noF x.1, x.2) else bd (d :: q) fun _ => false)
    else none
/-- What a text says. -/
def ps (l : List UInt8) : Option (Nat → Bool) := match cls l with
  | some (f, []) => some f
  | _ => none
end Go.Proofs.YtmjojahkbjlcdaaDoor
