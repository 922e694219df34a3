/- How many bits of a word are 1: the sum that goes by pairs, by fours, by eights. No program, no world. -/
import Derived.Laws.Entries
namespace Go.Proofs.YthglciccejholaaDoor
set_option linter.unusedSimpArgs false
set_option linter.unusedVariables false
set_option maxRecDepth 100000

/-- How many of the first n numbers are in f. -/
def cntF (f : Nat → Bool) : Nat → Nat
  | 0 => 0
  | n + 1 => cntF f n + (f n).toNat
theorem cnt_add (f : Nat → Bool) (a : Nat) : ∀ b, cntF f (a + b) = cntF f a + cntF (fun k => f (a + k)) b
  | 0 => rfl
  | b + 1 => by
    show cntF f (a + b) + (f (a + b)).toNat = _
    rw [cnt_add f a b]; simp only [cntF]; omega
theorem cnt_congr {f g : Nat → Bool} : ∀ {n : Nat}, (∀ k, k < n → f k = g k) → cntF f n = cntF g n
  | 0, _ => rfl
  | n + 1, h => by
    simp only [cntF]
    rw [cnt_congr (n := n) (fun k hk => h k (by omega)), h n (by omega)]
theorem cnt_le (f : Nat → Bool) : ∀ n, cntF f n ≤ n
  | 0 => Nat.le_refl _
  | n + 1 => by
    have := cnt_le f n
    have h : (f n).toNat ≤ 1 := by cases f n <;> decide
    simp only [cntF]; omega
theorem cnt_or_and (f g : Nat → Bool) : ∀ n, cntF (fun k => f k || g k) n + cntF (fun k => f k && g k) n = cntF f n + cntF g n
  | 0 => rfl
  | n + 1 => by
    have := cnt_or_and f g n
    simp only [cntF]
    cases f n <;> cases g n <;> simp <;> omega
theorem cnt_not (f : Nat → Bool) : ∀ n, cntF f n + cntF (fun k => !f k) n = n
  | 0 => rfl
  | n + 1 => by
    have := cnt_not f n
    simp only [cntF]
    cases f n <;> simp <;> omega

def V : List Nat → Nat
  | [] => 0
  | p :: r => p + 256 * V r
def bytesN : Nat → Nat → List Nat
  | 0, _ => []
  | n + 1, x => x % 256 :: bytesN n (x / 256)
theorem V_bytes : ∀ (n x : Nat), x < 256 ^ n → V (bytesN n x) = x
  | 0, x, h => by simp at h; subst h; rfl
  | n + 1, x, h => by
    simp only [bytesN, V]
    rw [V_bytes n (x / 256) (by rw [Nat.pow_succ] at h; omega)]; omega
theorem bytes_lt : ∀ (n x : Nat), ∀ p ∈ bytesN n x, p < 256
  | 0, x => by simp [bytesN]
  | n + 1, x => by
    intro p hp
    rcases List.mem_cons.1 hp with rfl | hp
    · omega
    · exact bytes_lt n _ p hp
theorem bytes_len : ∀ (n x : Nat), (bytesN n x).length = n
  | 0, x => rfl
  | n + 1, x => by simp [bytesN, bytes_len n]

theorem and_split (u c v d : Nat) (hu : u < 256) (hc : c < 256) : (u + 256 * v) &&& (c + 256 * d) = (u &&& c) + 256 * (v &&& d) := by
  have h1 : ((u + 256 * v) &&& (c + 256 * d)) % 2 ^ 8 = ((u &&& c) + 256 * (v &&& d)) % 2 ^ 8 := by
    rw [Nat.and_mod_two_pow]
    have e1 : (u + 256 * v) % 2 ^ 8 = u := by omega
    have e2 : (c + 256 * d) % 2 ^ 8 = c := by omega
    have e3 : (u &&& c) < 2 ^ 8 := Nat.and_lt_two_pow _ (by omega)
    rw [e1, e2]; omega
  have h2 : ((u + 256 * v) &&& (c + 256 * d)) / 2 ^ 8 = ((u &&& c) + 256 * (v &&& d)) / 2 ^ 8 := by
    rw [Nat.and_div_two_pow]
    have e1 : (u + 256 * v) / 2 ^ 8 = v := by omega
    have e2 : (c + 256 * d) / 2 ^ 8 = d := by omega
    have e3 : (u &&& c) < 2 ^ 8 := Nat.and_lt_two_pow _ (by omega)
    rw [e1, e2]; omega
  have a1 := Nat.div_add_mod ((u + 256 * v) &&& (c + 256 * d)) (2 ^ 8)
  have a2 := Nat.div_add_mod ((u &&& c) + 256 * (v &&& d)) (2 ^ 8)
  rw [h1, h2] at a1
  rw [← a1, a2]

theorem V_add {f g : Nat → Nat} : ∀ l : List Nat, V (l.map f) + V (l.map g) = V (l.map fun p => f p + g p)
  | [] => rfl
  | p :: r => by
    have := V_add (f := f) (g := g) r
    simp only [List.map_cons, V]; omega
theorem V_and (m : Nat) (hm : m < 256) : ∀ l : List Nat, (∀ p ∈ l, p < 256) → V l &&& V (List.replicate l.length m) = V (l.map fun p => p &&& m)
  | [], _ => by simp [V]
  | p :: r, h => by
    have ih := V_and m hm r (fun q hq => h q (List.mem_cons_of_mem _ hq))
    simp only [List.length_cons, List.replicate_succ, V, List.map_cons]
    rw [and_split _ _ _ _ (h p (List.mem_cons_self ..)) hm, ih]

theorem low1 : ∀ p : Fin 256, ∀ z : Fin 2, (p.val / 2 + 128 * z.val) &&& 85 = p.val / 2 &&& 85 := by decide +kernel
theorem low2 : ∀ p : Fin 256, ∀ z : Fin 4, (p.val / 4 + 64 * z.val) &&& 51 = p.val / 4 &&& 51 := by decide +kernel
theorem low3 : ∀ p : Fin 69, ∀ z : Fin 5, (p.val / 16 + 16 * z.val + p.val) &&& 15 = (p.val / 16 + p.val) &&& 15 := by decide +kernel

theorem V_half : ∀ l : List Nat, (∀ p ∈ l, p < 256) → V l / 2 &&& V (List.replicate l.length 85) = V (l.map fun p => p / 2 &&& 85)
  | [], _ => by simp [V]
  | p :: r, h => by
    have ih := V_half r (fun q hq => h q (List.mem_cons_of_mem _ hq))
    have hp := h p (List.mem_cons_self ..)
    simp only [List.length_cons, List.replicate_succ, V, List.map_cons]
    have e : (p + 256 * V r) / 2 = (p / 2 + 128 * (V r % 2)) + 256 * (V r / 2) := by omega
    have := low1 ⟨p, hp⟩ ⟨V r % 2, by omega⟩
    rw [e, and_split _ _ _ _ (by omega) (by omega), ih]
    exact congrArg (· + _) this
theorem V_quart : ∀ l : List Nat, (∀ p ∈ l, p < 256) → V l / 4 &&& V (List.replicate l.length 51) = V (l.map fun p => p / 4 &&& 51)
  | [], _ => by simp [V]
  | p :: r, h => by
    have ih := V_quart r (fun q hq => h q (List.mem_cons_of_mem _ hq))
    have hp := h p (List.mem_cons_self ..)
    simp only [List.length_cons, List.replicate_succ, V, List.map_cons]
    have e : (p + 256 * V r) / 4 = (p / 4 + 64 * (V r % 4)) + 256 * (V r / 4) := by omega
    have := low2 ⟨p, hp⟩ ⟨V r % 4, by omega⟩
    rw [e, and_split _ _ _ _ (by omega) (by omega), ih]
    exact congrArg (· + _) this
theorem V_mod16 : ∀ l : List Nat, (∀ p ∈ l, p ≤ 68 ∧ p % 16 ≤ 4) → V l % 16 ≤ 4
  | [], _ => by simp [V]
  | p :: r, h => by
    have := (h p (List.mem_cons_self ..)).2
    simp only [V]; omega
theorem V_sixt : ∀ l : List Nat, (∀ p ∈ l, p ≤ 68 ∧ p % 16 ≤ 4) → (V l / 16 + V l) &&& V (List.replicate l.length 15) = V (l.map fun p => (p / 16 + p) &&& 15)
  | [], _ => by simp [V]
  | p :: r, h => by
    have hr := fun q hq => h q (List.mem_cons_of_mem _ hq)
    have ih := V_sixt r hr
    have hm := V_mod16 r hr
    have hp := (h p (List.mem_cons_self ..)).1
    simp only [List.length_cons, List.replicate_succ, V, List.map_cons]
    have e : (p + 256 * V r) / 16 + (p + 256 * V r) = (p / 16 + 16 * (V r % 16) + p) + 256 * (V r / 16 + V r) := by omega
    have := low3 ⟨p, by omega⟩ ⟨V r % 16, by omega⟩
    rw [e, and_split _ _ _ _ (by omega) (by omega), ih]
    exact congrArg (· + _) this

def s1 (p : Nat) : Nat := (p / 2 &&& 85) + (p &&& 85)
def s2 (p : Nat) : Nat := (p / 4 &&& 51) + (p &&& 51)
def s3 (p : Nat) : Nat := (p / 16 + p) &&& 15
theorem s1_lt : ∀ p : Fin 256, s1 p.val < 256 := by decide +kernel
theorem s2_le : ∀ p : Fin 256, s2 (s1 p.val) ≤ 68 ∧ s2 (s1 p.val) % 16 ≤ 4 := by decide +kernel
theorem s3_is : ∀ p : Fin 256, s3 (s2 (s1 p.val)) = cntF (Nat.testBit p.val) 8 := by decide +kernel

def o1 (x : Nat) : Nat := (x / 2 &&& 6148914691236517205) + (x &&& 6148914691236517205)
def o2 (x : Nat) : Nat := (x / 4 &&& 3689348814741910323) + (x &&& 3689348814741910323)
def o3 (x : Nat) : Nat := (x / 16 + x) &&& 1085102592571150095

theorem o1_V (l : List Nat) (hl : l.length = 8) (h : ∀ p ∈ l, p < 256) : o1 (V l) = V (l.map s1) := by
  have a := V_half l h
  have b := V_and 85 (by omega) l h
  rw [hl] at a b
  have m : V (List.replicate 8 85) = 6148914691236517205 := by decide
  rw [m] at a b
  unfold o1
  rw [a, b, V_add]; rfl
theorem o2_V (l : List Nat) (hl : l.length = 8) (h : ∀ p ∈ l, p < 256) : o2 (V l) = V (l.map s2) := by
  have a := V_quart l h
  have b := V_and 51 (by omega) l h
  rw [hl] at a b
  have m : V (List.replicate 8 51) = 3689348814741910323 := by decide
  rw [m] at a b
  unfold o2
  rw [a, b, V_add]; rfl
theorem o3_V (l : List Nat) (hl : l.length = 8) (h : ∀ p ∈ l, p ≤ 68 ∧ p % 16 ≤ 4) : o3 (V l) = V (l.map s3) := by
  have a := V_sixt l h
  rw [hl] at a
  have m : V (List.replicate 8 15) = 1085102592571150095 := by decide
  rw [m] at a
  unfold o3
  rw [a]; rfl

theorem test_div (x k : Nat) : Nat.testBit (x / 256) k = Nat.testBit x (8 + k) := by
  rw [show (256 : Nat) = 2 ^ 8 from rfl, Nat.testBit_div_two_pow, Nat.add_comm]
theorem test_mod (x k : Nat) (h : k < 8) : Nat.testBit (x % 256) k = Nat.testBit x k := by
  rw [show (256 : Nat) = 2 ^ 8 from rfl, Nat.testBit_mod_two_pow]; simp [h]
def sumL : List Nat → Nat
  | [] => 0
  | p :: r => p + sumL r
theorem sum_bytes : ∀ (n x : Nat), sumL ((bytesN n x).map fun p => cntF (Nat.testBit p) 8) = cntF (Nat.testBit x) (8 * n)
  | 0, x => rfl
  | n + 1, x => by
    simp only [bytesN, List.map_cons, sumL]
    rw [sum_bytes n (x / 256), show 8 * (n + 1) = 8 + 8 * n by omega, cnt_add]
    rw [cnt_congr (f := Nat.testBit (x % 256)) (g := Nat.testBit x) (fun k hk => test_mod x k hk)]
    rw [cnt_congr (f := Nat.testBit (x / 256)) (g := fun k => Nat.testBit x (8 + k)) (fun k _ => test_div x k)]

def onesN (x : Nat) : Nat :=
  let z := o3 (o2 (o1 x))
  let a := z + z / 256
  let b := a + a / 65536
  (b + b / 4294967296) % 128

/-- What the three steps leave: eight bytes, each how many bits of its byte were 1. -/
theorem ones_V (x : Nat) (h : x < 18446744073709551616) : ∃ a b c d e f g i : Nat, (a ≤ 8 ∧ b ≤ 8 ∧ c ≤ 8 ∧ d ≤ 8 ∧ e ≤ 8 ∧ f ≤ 8 ∧ g ≤ 8 ∧ i ≤ 8) ∧ o3 (o2 (o1 x)) = V [a, b, c, d, e, f, g, i] ∧ a + b + c + d + e + f + g + i = cntF (Nat.testBit x) 64 := by
  have hb := bytes_lt 8 x
  have hl := bytes_len 8 x
  have hv := V_bytes 8 x (by simpa using h)
  have e1 := o1_V _ hl hb
  have b1 : ∀ p ∈ (bytesN 8 x).map s1, p < 256 := by
    intro p hp
    obtain ⟨q, hq, rfl⟩ := List.mem_map.1 hp
    exact s1_lt ⟨q, hb q hq⟩
  have e2 := o2_V _ (by simpa using hl) b1
  have b2 : ∀ p ∈ ((bytesN 8 x).map s1).map s2, p ≤ 68 ∧ p % 16 ≤ 4 := by
    intro p hp
    obtain ⟨q', hq', rfl⟩ := List.mem_map.1 hp
    obtain ⟨q, hq, rfl⟩ := List.mem_map.1 hq'
    exact s2_le ⟨q, hb q hq⟩
  have e3 := o3_V _ (by simpa using hl) b2
  have e4 : (((bytesN 8 x).map s1).map s2).map s3 = (bytesN 8 x).map fun p => cntF (Nat.testBit p) 8 := by
    rw [List.map_map, List.map_map]
    apply List.map_congr_left
    intro p hp
    exact s3_is ⟨p, hb p hp⟩
  have hs := sum_bytes 8 x
  rw [hv] at e1
  rw [e1, e2, e3, e4]
  simp only [bytesN, List.map_cons, List.map_nil, sumL] at hs ⊢
  exact ⟨_, _, _, _, _, _, _, _, ⟨cnt_le _ _, cnt_le _ _, cnt_le _ _, cnt_le _ _, cnt_le _ _, cnt_le _ _, cnt_le _ _, cnt_le _ _⟩, rfl, by rw [← hs]; omega⟩

theorem div_V (p : Nat) (r : List Nat) (h : p < 256) : V (p :: r) / 256 = V r := by simp only [V]; omega
theorem div2_V (p q : Nat) (r : List Nat) (h : p < 256) (h' : q < 256) : V (p :: q :: r) / 65536 = V r := by simp only [V]; omega
theorem div4_V (p q s t : Nat) (r : List Nat) (h : p < 256) (h' : q < 256) (h2 : s < 256) (h3 : t < 256) : V (p :: q :: s :: t :: r) / 4294967296 = V r := by simp only [V]; omega

theorem V_cc {p q : Nat} {r s t : List Nat} (h : V r + V s = V t) : V (p :: r) + V (q :: s) = V ((p + q) :: t) := by simp only [V]; omega
theorem V_cn (r : List Nat) : V r + V [] = V r := rfl
theorem V_lt (m : Nat) : ∀ (l : List Nat), (∀ p ∈ l, p ≤ 255) → V l < 256 ^ l.length
  | [], _ => by simp [V]
  | p :: r, h => by
    have := V_lt m r (fun q hq => h q (List.mem_cons_of_mem _ hq))
    have hp := h p (List.mem_cons_self ..)
    simp only [V, List.length_cons, Nat.pow_succ]; omega

theorem V8 (a b c d e f g i : Nat) (ha : a ≤ 8) (hb : b ≤ 8) (hc : c ≤ 8) (hd : d ≤ 8) (he : e ≤ 8) (hf : f ≤ 8) (hg : g ≤ 8) (hi : i ≤ 8) : V [a, b, c, d, e, f, g, i] < 1152921504606846976 := by
  have := V_lt 0 [b, c, d, e, f, g] (by simp; omega)
  simp only [V] at this ⊢
  simp at this
  omega
theorem V_head (p : Nat) (r : List Nat) (h : p < 128) : V (p :: r) % 128 = p := by simp only [V]; omega

theorem ones_all (x : Nat) (h : x < 18446744073709551616) : ∃ z a b t : Nat, o3 (o2 (o1 x)) = z ∧ z + z / 256 = a ∧ a + a / 65536 = b ∧ b + b / 4294967296 = t ∧ z < 1152921504606846976 ∧ t % 128 = cntF (Nat.testBit x) 64 := by
  obtain ⟨a, b, c, d, e, f, g, i, ⟨ha, hb, hc, hd, he, hf, hg, hi⟩, hV, hs⟩ := ones_V x h
  have h1 : V [a, b, c, d, e, f, g, i] / 256 = V [b, c, d, e, f, g, i] := div_V _ _ (by omega)
  have e1 : V [a, b, c, d, e, f, g, i] + V [b, c, d, e, f, g, i] = V [a + b, b + c, c + d, d + e, e + f, f + g, g + i, i] := V_cc (V_cc (V_cc (V_cc (V_cc (V_cc (V_cc (V_cn _)))))))
  have h2 : V [a + b, b + c, c + d, d + e, e + f, f + g, g + i, i] / 65536 = V [c + d, d + e, e + f, f + g, g + i, i] := div2_V _ _ _ (by omega) (by omega)
  have e2 : V [a + b, b + c, c + d, d + e, e + f, f + g, g + i, i] + V [c + d, d + e, e + f, f + g, g + i, i] = V [a + b + (c + d), b + c + (d + e), c + d + (e + f), d + e + (f + g), e + f + (g + i), f + g + i, g + i, i] := V_cc (V_cc (V_cc (V_cc (V_cc (V_cc (V_cn _))))))
  have h3 : V [a + b + (c + d), b + c + (d + e), c + d + (e + f), d + e + (f + g), e + f + (g + i), f + g + i, g + i, i] / 4294967296 = V [e + f + (g + i), f + g + i, g + i, i] := div4_V _ _ _ _ _ (by omega) (by omega) (by omega) (by omega)
  have e3 : V [a + b + (c + d), b + c + (d + e), c + d + (e + f), d + e + (f + g), e + f + (g + i), f + g + i, g + i, i] + V [e + f + (g + i), f + g + i, g + i, i] = V [a + b + (c + d) + (e + f + (g + i)), b + c + (d + e) + (f + g + i), c + d + (e + f) + (g + i), d + e + (f + g) + i, e + f + (g + i), f + g + i, g + i, i] := V_cc (V_cc (V_cc (V_cc (V_cn _))))
  refine ⟨_, _, _, _, hV, (by rw [h1, e1]), (by rw [h2, e2]), (by rw [h3, e3]), V8 _ _ _ _ _ _ _ _ ha hb hc hd he hf hg hi, ?_⟩
  rw [V_head _ _ (by omega), ← hs]; omega
end Go.Proofs.YthglciccejholaaDoor
