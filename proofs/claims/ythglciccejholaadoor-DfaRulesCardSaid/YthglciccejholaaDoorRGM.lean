/- What laying a pattern's spots makes, and what these match: plain. -/
import Derived.Test.YthglciccejholaaDoorRg
namespace Go.Proofs.YthglciccejholaaDoor.R5
set_option linter.unusedSimpArgs false
set_option linter.unusedVariables false
/-- A set's letters, by their bits. -/
def fOf (u : Nat → Int) (b : Nat) : Bool := (u (b / 64)).toNat.testBit (b % 64)
def noS : Nat → Bool := fun _ => false
def oneS (n : Nat) : Nat → Bool := fun i => i == n
def orS (a b : Nat → Bool) : Nat → Bool := fun i => a i || b i
def andS (a b : Nat → Bool) : Nat → Bool := fun i => a i && b i
/-- Spots laid, the bytes that they have, and what may match behind each. -/
structure Net where
  n : Nat
  has : Nat → Nat → Bool
  beh : Nat → Nat → Bool
/-- What a pattern around has «to» know. -/
structure Prt where
  e : Bool
  f : Nat → Bool
  l : Nat → Bool
def Net.link (N : Net) (a b : Nat → Bool) : Net := ⟨N.n, N.has, fun i j => N.beh i j || (decide (i < N.n) && a i && b j)⟩
def Net.spot (N : Net) (g : Nat → Bool) : Net := ⟨N.n + 1, fun c j => N.has c j || (g c && j == N.n), N.beh⟩
def Prt.cat (a p : Prt) : Prt := ⟨a.e && p.e, bif a.e then orS a.f p.f else a.f, bif p.e then orS a.l p.l else p.l⟩
def Prt.alt (a p : Prt) : Prt := ⟨a.e || p.e, orS a.f p.f, orS a.l p.l⟩
mutual
/-- What laying a pattern makes of what was laid. -/
def layN : RT → Net → Net × Prt
  | .mk k u ps, N =>
    if k = 0 then (N, ⟨false, noS, noS⟩) else if k = 1 then (N, ⟨true, noS, noS⟩) else if k = 2 then (N.spot (fOf u), ⟨false, oneS N.n, oneS N.n⟩)
    else if k = 3 then rowN ps N ⟨true, noS, noS⟩ else if k = 4 then choN ps N ⟨false, noS, noS⟩ else lupN k ps N
def lupN (k : Int) : List RT → Net → Net × Prt
  | [], N => (N, ⟨false, noS, noS⟩)
  | t :: _, N => (if k = 7 then (layN t N).1 else (layN t N).1.link (layN t N).2.l (layN t N).2.f, ⟨(layN t N).2.e || decide (k ≠ 6), (layN t N).2.f, (layN t N).2.l⟩)
def rowN : List RT → Net → Prt → Net × Prt
  | [], N, a => (N, a)
  | t :: ts, N, a => rowN ts ((layN t N).1.link a.l (layN t N).2.f) (a.cat (layN t N).2)
def choN : List RT → Net → Prt → Net × Prt
  | [], N, a => (N, a)
  | t :: ts, N, a => choN ts (layN t N).1 (a.alt (layN t N).2)
end
/-- Any number of texts, one behind the other. -/
inductive Sta (P : List UInt8 → Prop) : List UInt8 → Prop where
  | nil : Sta P []
  | app {a b : List UInt8} : P a → Sta P b → Sta P (a ++ b)
mutual
/-- A pattern matches a text. -/
def Lg : RT → List UInt8 → Prop
  | .mk k u ps, w => if k = 0 then False else if k = 1 then w = [] else if k = 2 then ∃ c, w = [c] ∧ fOf u c.toNat = true
    else if k = 3 then LgR ps w else if k = 4 then LgC ps w else if k = 5 then Sta (LgH ps) w else if k = 6 then ∃ a b, w = a ++ b ∧ LgH ps a ∧ Sta (LgH ps) b else w = [] ∨ LgH ps w
def LgH : List RT → List UInt8 → Prop
  | [], _ => False
  | t :: _, w => Lg t w
def LgR : List RT → List UInt8 → Prop
  | [], w => w = []
  | t :: ts, w => ∃ a b, w = a ++ b ∧ Lg t a ∧ LgR ts b
def LgC : List RT → List UInt8 → Prop
  | [], _ => False
  | t :: ts, w => Lg t w ∨ LgC ts w
end
/-- From a spot, by a text, «to» another. -/
inductive Pth (E H : Nat → Nat → Bool) : Nat → List UInt8 → Nat → Prop where
  | nil (p : Nat) : Pth E H p [] p
  | cons {p q r : Nat} {c : UInt8} {w : List UInt8} : E p q = true → H c.toNat q = true → Pth E H q w r → Pth E H p (c :: w) r
/-- A text of a byte at least, from one of the first «to» one of the last. -/
def Acc (E H : Nat → Nat → Bool) (f l : Nat → Bool) (w : List UInt8) : Prop := ∃ c x p q, w = c :: x ∧ f p = true ∧ H c.toNat p = true ∧ Pth E H p x q ∧ l q = true
/-- All within a, b. -/
def Wi (a b : Nat) (f : Nat → Bool) : Prop := ∀ i, f i = true → a ≤ i ∧ i < b
def Wi2 (a b : Nat) (E : Nat → Nat → Bool) : Prop := ∀ i j, E i j = true → (a ≤ i ∧ i < b) ∧ a ≤ j ∧ j < b
theorem Pth.mono {E E' H H' : Nat → Nat → Bool} (hE : ∀ i j, E i j = true → E' i j = true) (hH : ∀ i j c, E i j = true → H c j = true → H' c j = true) {p q : Nat} {w : List UInt8} (h : Pth E H p w q) : Pth E' H' p w q := by
  induction h with
  | nil p => exact .nil p
  | cons h1 h2 _ ih => exact .cons (hE _ _ h1) (hH _ _ _ h1 h2) ih
theorem Pth.within {a b : Nat} {E H : Nat → Nat → Bool} (hE : Wi2 a b E) {p q : Nat} {w : List UInt8} (h : Pth E H p w q) (hp : a ≤ p ∧ p < b) : a ≤ q ∧ q < b := by
  induction h with
  | nil p => exact hp
  | cons h1 _ _ ih => exact ih (hE _ _ h1).2
theorem Pth.append {E H : Nat → Nat → Bool} {p q r : Nat} {x y : List UInt8} (h : Pth E H p x q) (g : Pth E H q y r) : Pth E H p (x ++ y) r := by
  induction h with
  | nil p => exact g
  | cons h1 h2 _ ih => exact .cons h1 h2 (ih g)
/-- One way that is kept apart from another part's. -/
theorem Pth.only {a b : Nat} {E E1 H : Nat → Nat → Bool} (hE : ∀ i j, a ≤ i → i < b → E i j = true → E1 i j = true ∧ a ≤ j ∧ j < b) {p q : Nat} {w : List UInt8} (h : Pth E H p w q) (hp : a ≤ p ∧ p < b) : Pth E1 H p w q ∧ a ≤ q ∧ q < b := by
  induction h with
  | nil p => exact ⟨.nil p, hp⟩
  | cons h1 h2 _ ih =>
    obtain ⟨x, y⟩ := hE _ _ hp.1 hp.2 h1
    obtain ⟨z, t⟩ := ih y
    exact ⟨.cons x h2 z, t⟩
/-- One part behind another: the edges of both, and those from the last of one «to» the first of the other. -/
theorem Pth.cut {a b c : Nat} {E E1 E2 H : Nat → Nat → Bool} {l1 f2 : Nat → Bool} (hl : Wi a b l1) (hf : Wi b c f2) (h1 : Wi2 a b E1) (h2 : Wi2 b c E2)
    (hE : ∀ i j, E i j = true → E1 i j = true ∨ E2 i j = true ∨ (l1 i = true ∧ f2 j = true)) {p q : Nat} {w : List UInt8} (h : Pth E H p w q) (hp : a ≤ p ∧ p < b) :
    (Pth E1 H p w q ∧ a ≤ q ∧ q < b) ∨ ∃ x p' y, w = x ++ y ∧ Pth E1 H p x p' ∧ l1 p' = true ∧ (∃ d z q', y = d :: z ∧ f2 q' = true ∧ H d.toNat q' = true ∧ Pth E2 H q' z q) ∧ b ≤ q ∧ q < c := by
  induction h with
  | nil p => exact .inl ⟨.nil p, hp⟩
  | @cons p q r d w g1 g2 g3 ih =>
    rcases hE _ _ g1 with e | e | ⟨e1, e2⟩
    · rcases ih (h1 _ _ e).2 with ⟨x, y⟩ | ⟨x, p', y, rfl, z, t⟩
      · exact .inl ⟨.cons e g2 x, y⟩
      · exact .inr ⟨d :: x, p', y, rfl, .cons e g2 z, t⟩
    · have := (h2 _ _ e).1; omega
    · have hq := hf _ e2
      have g3' := Pth.only (a := b) (b := c) (E1 := E2) (fun i j hi hj hij => by
        rcases hE _ _ hij with e | e | ⟨e1, e2⟩
        · have := (h1 _ _ e).1; omega
        · exact ⟨e, (h2 _ _ e).2⟩
        · have := hl _ e1; omega) g3 hq
      exact .inr ⟨[], p, d :: w, rfl, .nil p, e1, ⟨d, w, q, rfl, e2, g2, g3'.1⟩, g3'.2⟩
def OrE (e : Bool) (P : List UInt8 → Prop) (w : List UInt8) : Prop := (w = [] ∧ e = true) ∨ P w
theorem acc_cat {a b c : Nat} {E E1 E2 H : Nat → Nat → Bool} {A B : Prt} (hf1 : Wi a b A.f) (hl1 : Wi a b A.l) (hf2 : Wi b c B.f) (hl2 : Wi b c B.l) (h1 : Wi2 a b E1) (h2 : Wi2 b c E2)
    (hE : ∀ i j, E i j = true ↔ (E1 i j = true ∨ E2 i j = true ∨ (A.l i = true ∧ B.f j = true))) (w : List UInt8) :
    OrE (A.cat B).e (Acc E H (A.cat B).f (A.cat B).l) w ↔ ∃ x y, w = x ++ y ∧ OrE A.e (Acc E1 H A.f A.l) x ∧ OrE B.e (Acc E2 H B.f B.l) y := by
  have m1 : ∀ i j, E1 i j = true → E i j = true := fun i j h => (hE i j).2 (.inl h)
  have m2 : ∀ i j, E2 i j = true → E i j = true := fun i j h => (hE i j).2 (.inr (.inl h))
  constructor
  · rintro (⟨rfl, he⟩ | ⟨d, x, p, q, rfl, hp, hd, hx, hq⟩)
    · simp only [Prt.cat, Bool.and_eq_true] at he
      exact ⟨[], [], rfl, .inl ⟨rfl, he.1⟩, .inl ⟨rfl, he.2⟩⟩
    · have hp' : A.f p = true ∨ (A.e = true ∧ B.f p = true) := by
        cases hae : A.e <;> simp [Prt.cat, hae, orS] at hp <;> simp [hp]
      have hq' : B.l q = true ∨ (B.e = true ∧ A.l q = true) := by
        cases hae : B.e <;> simp [Prt.cat, hae, orS] at hq
        · simp [hq]
        · rcases hq with h | h <;> simp [h]
      rcases hp' with hp | ⟨hae, hp⟩
      · rcases Pth.cut hl1 hf2 h1 h2 (fun i j h => (hE i j).1 h) hx (hf1 _ hp) with ⟨g, gq⟩ | ⟨x', p', y, rfl, g1, g2, ⟨d', z, q', rfl, g3, g4, g5⟩, g6⟩
        · rcases hq' with h | ⟨hbe, h⟩
          · have := hl2 _ h; omega
          · exact ⟨d :: x, [], by simp, .inr ⟨d, x, p, q, rfl, hp, hd, g, h⟩, .inl ⟨rfl, hbe⟩⟩
        · rcases hq' with h | ⟨hbe, h⟩
          · exact ⟨d :: x', d' :: z, by simp, .inr ⟨d, x', p, p', rfl, hp, hd, g1, g2⟩, .inr ⟨d', z, q', q, rfl, g3, g4, g5, h⟩⟩
          · have := hl1 _ h; omega
      · have hb := hf2 _ hp
        have g3' := Pth.only (a := b) (b := c) (E1 := E2) (fun i j hi hj hij => by
          rcases (hE _ _).1 hij with e | e | ⟨e1, e2⟩
          · have := (h1 _ _ e).1; omega
          · exact ⟨e, (h2 _ _ e).2⟩
          · have := hl1 _ e1; omega) hx hb
        rcases hq' with h | ⟨hbe, h⟩
        · exact ⟨[], d :: x, by simp, .inl ⟨rfl, hae⟩, .inr ⟨d, x, p, q, rfl, hp, hd, g3'.1, h⟩⟩
        · have := hl1 _ h; omega
  · rintro ⟨x, y, rfl, (⟨rfl, hae⟩ | ⟨d, x, p, q, rfl, hp, hd, hx, hq⟩), (⟨rfl, hbe⟩ | ⟨d', x', p', q', rfl, hp', hd', hx', hq'⟩)⟩
    · exact .inl ⟨rfl, by simp [Prt.cat, hae, hbe]⟩
    · exact .inr ⟨d', x', p', q', by simp, by simp [Prt.cat, hae, orS, hp'], hd', hx'.mono m2 (fun _ _ _ _ h => h), by cases hbe : B.e <;> simp [Prt.cat, orS, hbe, hq']⟩
    · exact .inr ⟨d, x, p, q, by simp, by cases hae : A.e <;> simp [Prt.cat, orS, hae, hp], hd, hx.mono m1 (fun _ _ _ _ h => h), by simp [Prt.cat, orS, hbe, hq]⟩
    · exact .inr ⟨d, x ++ d' :: x', p, q', by simp, by cases hae : A.e <;> simp [Prt.cat, orS, hae, hp], hd, (hx.mono m1 (fun _ _ _ _ h => h)).append (.cons ((hE _ _).2 (.inr (.inr ⟨hq, hp'⟩))) hd' (hx'.mono m2 (fun _ _ _ _ h => h))), by cases hbe : B.e <;> simp [Prt.cat, orS, hbe, hq']⟩
theorem acc_alt {a b c : Nat} {E E1 E2 H : Nat → Nat → Bool} {A B : Prt} (hf1 : Wi a b A.f) (hl1 : Wi a b A.l) (hf2 : Wi b c B.f) (hl2 : Wi b c B.l) (h1 : Wi2 a b E1) (h2 : Wi2 b c E2)
    (hE : ∀ i j, E i j = true ↔ (E1 i j = true ∨ E2 i j = true)) (w : List UInt8) :
    OrE (A.alt B).e (Acc E H (A.alt B).f (A.alt B).l) w ↔ OrE A.e (Acc E1 H A.f A.l) w ∨ OrE B.e (Acc E2 H B.f B.l) w := by
  have m1 : ∀ i j, E1 i j = true → E i j = true := fun i j h => (hE i j).2 (.inl h)
  have m2 : ∀ i j, E2 i j = true → E i j = true := fun i j h => (hE i j).2 (.inr h)
  constructor
  · rintro (⟨rfl, he⟩ | ⟨d, x, p, q, rfl, hp, hd, hx, hq⟩)
    · simp only [Prt.alt, Bool.or_eq_true] at he
      exact he.imp (fun h => .inl ⟨rfl, h⟩) (fun h => .inl ⟨rfl, h⟩)
    · simp only [Prt.alt, orS, Bool.or_eq_true] at hp hq
      rcases hp with hp | hp
      · have g := Pth.only (a := a) (b := b) (E1 := E1) (fun i j hi hj hij => by
          rcases (hE _ _).1 hij with e | e
          · exact ⟨e, (h1 _ _ e).2⟩
          · have := (h2 _ _ e).1; omega) hx (hf1 _ hp)
        rcases hq with h | h
        · exact .inl (.inr ⟨d, x, p, q, rfl, hp, hd, g.1, h⟩)
        · have := hl2 _ h; omega
      · have g := Pth.only (a := b) (b := c) (E1 := E2) (fun i j hi hj hij => by
          rcases (hE _ _).1 hij with e | e
          · have := (h1 _ _ e).1; omega
          · exact ⟨e, (h2 _ _ e).2⟩) hx (hf2 _ hp)
        rcases hq with h | h
        · have := hl1 _ h; omega
        · exact .inr (.inr ⟨d, x, p, q, rfl, hp, hd, g.1, h⟩)
  · rintro ((⟨rfl, he⟩ | ⟨d, x, p, q, rfl, hp, hd, hx, hq⟩) | (⟨rfl, he⟩ | ⟨d, x, p, q, rfl, hp, hd, hx, hq⟩))
    · exact .inl ⟨rfl, by simp [Prt.alt, he]⟩
    · exact .inr ⟨d, x, p, q, rfl, by simp [Prt.alt, orS, hp], hd, hx.mono m1 (fun _ _ _ _ h => h), by simp [Prt.alt, orS, hq]⟩
    · exact .inl ⟨rfl, by simp [Prt.alt, he]⟩
    · exact .inr ⟨d, x, p, q, rfl, by simp [Prt.alt, orS, hp], hd, hx.mono m2 (fun _ _ _ _ h => h), by simp [Prt.alt, orS, hq]⟩
theorem Sta.mono {P Q : List UInt8 → Prop} (h : ∀ w, P w → Q w) {w : List UInt8} (s : Sta P w) : Sta Q w := by
  induction s with
  | nil => exact .nil
  | app a _ ih => exact .app (h _ a) ih
theorem Sta.drop {e : Bool} {P : List UInt8 → Prop} {w : List UInt8} (s : Sta (OrE e P) w) : Sta P w := by
  induction s with
  | nil => exact .nil
  | app a _ ih =>
    rcases a with ⟨rfl, _⟩ | a
    · exact ih
    · exact .app a ih
theorem sta_ore {e : Bool} {P : List UInt8 → Prop} (w : List UInt8) : Sta (OrE e P) w ↔ Sta P w := ⟨Sta.drop, Sta.mono fun _ h => .inr h⟩
/-- A part, and round again. -/
theorem acc_plus {E E1 H : Nat → Nat → Bool} {f l : Nat → Bool} (hE : ∀ i j, E i j = true ↔ (E1 i j = true ∨ (l i = true ∧ f j = true))) (w : List UInt8) :
    Acc E H f l w ↔ ∃ x y, w = x ++ y ∧ Acc E1 H f l x ∧ Sta (Acc E1 H f l) y := by
  have m1 : ∀ i j, E1 i j = true → E i j = true := fun i j h => (hE i j).2 (.inl h)
  have fw : ∀ {p q : Nat} {w : List UInt8}, Pth E H p w q → l q = true → ∃ x q' y, w = x ++ y ∧ Pth E1 H p x q' ∧ l q' = true ∧ Sta (Acc E1 H f l) y := by
    intro p q w h
    induction h with
    | nil p => intro hl; exact ⟨[], p, [], rfl, .nil p, hl, .nil⟩
    | @cons p q r d w g1 g2 g3 ih =>
      intro hl
      obtain ⟨x, q', y, rfl, h1, h2, h3⟩ := ih hl
      rcases (hE _ _).1 g1 with e | ⟨e1, e2⟩
      · exact ⟨d :: x, q', y, rfl, .cons e g2 h1, h2, h3⟩
      · exact ⟨[], p, d :: (x ++ y), rfl, .nil p, e1, .app (a := d :: x) ⟨d, x, q, q', rfl, e2, g2, h1, h2⟩ h3⟩
  have bw : ∀ {y : List UInt8}, Sta (Acc E1 H f l) y → ∀ {p q : Nat} {x : List UInt8}, Pth E1 H p x q → l q = true → ∃ r, Pth E H p (x ++ y) r ∧ l r = true := by
    intro y s
    induction s with
    | nil => intro p q x h hl; exact ⟨q, by simpa using h.mono m1 (fun _ _ _ _ h => h), hl⟩
    | @app a b ha _ ih =>
      intro p q x h hl
      obtain ⟨d, a', p', q', rfl, h1, h2, h3, h4⟩ := ha
      obtain ⟨r, hr, hlr⟩ := ih h3 h4
      exact ⟨r, (h.mono m1 (fun _ _ _ _ h => h)).append (.cons ((hE _ _).2 (.inr ⟨hl, h1⟩)) h2 hr), hlr⟩
  constructor
  · rintro ⟨d, x, p, q, rfl, hp, hd, hx, hq⟩
    obtain ⟨x', q', y, rfl, h1, h2, h3⟩ := fw hx hq
    exact ⟨d :: x', y, rfl, ⟨d, x', p, q', rfl, hp, hd, h1, h2⟩, h3⟩
  · rintro ⟨x, y, rfl, ⟨d, x', p, q, rfl, hp, hd, hx, hq⟩, s⟩
    obtain ⟨r, hr, hl⟩ := bw s hx hq
    exact ⟨d, x' ++ y, p, r, rfl, hp, hd, hr, hl⟩
def frE (n : Nat) (E : Nat → Nat → Bool) : Nat → Nat → Bool := fun i j => decide (n ≤ i) && E i j
/-- What was laid holds together. -/
structure WFN (N : Net) : Prop where
  wi : Wi2 0 N.n N.beh
  hs : ∀ c j, N.has c j = true → j < N.n
/-- A part laid between N and M matches what P says. -/
structure Lok (N M : Net) (r : Prt) (P : List UInt8 → Prop) : Prop where
  le : N.n ≤ M.n
  wf : WFN M
  f : Wi N.n M.n r.f
  l : Wi N.n M.n r.l
  old : ∀ i j, i < N.n → M.beh i j = N.beh i j
  new : ∀ i j, N.n ≤ i → M.beh i j = true → N.n ≤ j
  oldh : ∀ c j, j < N.n → M.has c j = N.has c j
  acc : ∀ H, (∀ c j, N.n ≤ j → j < M.n → H c j = M.has c j) → ∀ w, P w ↔ OrE r.e (Acc (frE N.n M.beh) H r.f r.l) w
theorem wi_no (a b : Nat) : Wi a b noS := fun i h => by simp [noS] at h
theorem wi_or {a b : Nat} {f g : Nat → Bool} (hf : Wi a b f) (hg : Wi a b g) : Wi a b (orS f g) := fun i h => by
  simp only [orS, Bool.or_eq_true] at h; exact h.elim (hf i) (hg i)
theorem Wi.mono {a b c d : Nat} {f : Nat → Bool} (h : Wi a b f) (h1 : c ≤ a) (h2 : b ≤ d) : Wi c d f := fun i hi => by
  have := h i hi; omega
theorem acc_no (E H : Nat → Nat → Bool) (l : Nat → Bool) (w : List UInt8) : ¬ Acc E H noS l w := by
  rintro ⟨c, x, p, q, _, h, _⟩; simp [noS] at h
theorem lok_none {N : Net} (hN : WFN N) (e : Bool) : Lok N N ⟨e, noS, noS⟩ (fun w => w = [] ∧ e = true) where
  le := Nat.le_refl _
  wf := hN
  f := wi_no _ _
  l := wi_no _ _
  old := fun _ _ _ => rfl
  new := fun i j h hb => by have := hN.wi i j hb; omega
  oldh := fun _ _ _ => rfl
  acc := fun H hH w => ⟨fun h => .inl h, fun h => h.resolve_right (acc_no _ _ _ _)⟩
theorem lok_spot {N : Net} (hN : WFN N) (g : Nat → Bool) : Lok N (N.spot g) ⟨false, oneS N.n, oneS N.n⟩ (fun w => ∃ c, w = [c] ∧ g c.toNat = true) where
  le := Nat.le_succ _
  wf := ⟨fun i j h => by have := hN.wi i j h; simp only [Net.spot]; omega, fun c j h => by
    simp only [Net.spot, Bool.or_eq_true, Bool.and_eq_true, beq_iff_eq] at h ⊢
    rcases h with h | h
    · have := hN.hs c j h; omega
    · omega⟩
  f := fun i h => by simp only [oneS, beq_iff_eq] at h; simp only [Net.spot]; omega
  l := fun i h => by simp only [oneS, beq_iff_eq] at h; simp only [Net.spot]; omega
  old := fun _ _ _ => rfl
  new := fun i j h hb => by have := hN.wi i j hb; omega
  oldh := fun c j h => by
    have : (j == N.n) = false := by simp; omega
    simp [Net.spot, this]
  acc := fun H hH w => by
    have hh : ∀ c, H c N.n = g c := fun c => by
      rw [hH c N.n (Nat.le_refl _) (Nat.lt_succ_self _)]
      have : N.has c N.n = false := by
        cases h : N.has c N.n
        · rfl
        · have := hN.hs c _ h; omega
      simp [Net.spot, this]
    constructor
    · rintro ⟨c, rfl, h⟩
      exact .inr ⟨c, [], N.n, N.n, rfl, by simp [oneS], by rw [hh]; exact h, .nil _, by simp [oneS]⟩
    · rintro (⟨_, h⟩ | ⟨c, x, p, q, rfl, h1, h2, h3, h4⟩)
      · cases h
      · simp only [oneS, beq_iff_eq] at h1 h4
        subst h1; subst h4
        cases h3 with
        | nil => exact ⟨c, rfl, by rw [← hh]; exact h2⟩
        | cons a _ _ =>
          simp only [frE, Bool.and_eq_true, decide_eq_true_eq] at a
          have := hN.wi _ _ a.2; omega
theorem Lok.wi2 {N M : Net} {r : Prt} {P : List UInt8 → Prop} (h : Lok N M r P) : Wi2 N.n M.n (frE N.n M.beh) := fun i j e => by
  simp only [frE, Bool.and_eq_true, decide_eq_true_eq] at e
  have := h.wf.wi i j e.2
  have := h.new i j e.1 e.2
  omega
theorem Lok.imp {N M : Net} {r : Prt} {P Q : List UInt8 → Prop} (h : Lok N M r P) (e : ∀ w, P w ↔ Q w) : Lok N M r Q :=
  { h with acc := fun H hH w => (e w).symm.trans (h.acc H hH w) }
/-- What was laid ahead is as it was when another part was laid. -/
theorem Lok.later {N M K : Net} {a p : Prt} {P Q : List UInt8 → Prop} (h : Lok N M a P) (g : Lok M K p Q) (H : Nat → Nat → Bool) (hH : ∀ c j, N.n ≤ j → j < K.n → H c j = K.has c j) (w : List UInt8) : P w ↔ OrE a.e (Acc (frE N.n M.beh) H a.f a.l) w :=
  h.acc H (fun c j h1 h2 => by rw [hH c j h1 (by have := g.le; omega)]; exact g.oldh c j h2) w
theorem lok_cat {N M K : Net} {a p : Prt} {P Q : List UInt8 → Prop} (h : Lok N M a P) (g : Lok M K p Q) : Lok N (K.link a.l p.f) (a.cat p) (fun w => ∃ x y, w = x ++ y ∧ P x ∧ Q y) where
  le := Nat.le_trans h.le g.le
  wf := ⟨fun i j e => by
    simp only [Net.link, Bool.or_eq_true, Bool.and_eq_true, decide_eq_true_eq] at e ⊢
    rcases e with e | e
    · exact g.wf.wi i j e
    · have := h.l i e.1.2; have := g.f j e.2; omega, fun c j e => g.wf.hs c j e⟩
  f := by
    show Wi N.n K.n _
    simp only [Prt.cat]
    cases a.e
    · exact h.f.mono (Nat.le_refl _) g.le
    · exact wi_or (h.f.mono (Nat.le_refl _) g.le) (g.f.mono h.le (Nat.le_refl _))
  l := by
    show Wi N.n K.n _
    simp only [Prt.cat]
    cases p.e
    · exact g.l.mono h.le (Nat.le_refl _)
    · exact wi_or (h.l.mono (Nat.le_refl _) g.le) (g.l.mono h.le (Nat.le_refl _))
  old := fun i j hi => by
    have : a.l i = false := by cases e : a.l i; rfl; have := h.l i e; omega
    simp only [Net.link, this, Bool.and_false, Bool.false_and, Bool.or_false]
    rw [g.old i j (by have := h.le; omega), h.old i j hi]
  new := fun i j hi e => by
    simp only [Net.link, Bool.or_eq_true, Bool.and_eq_true, decide_eq_true_eq] at e
    rcases e with e | e
    · by_cases hm : i < M.n
      · rw [g.old i j hm] at e; exact h.new i j hi e
      · have := g.new i j (by omega) e; have := h.le; omega
    · have := g.f j e.2; have := h.le; omega
  oldh := fun c j hj => by
    show K.has c j = _
    rw [g.oldh c j (by have := h.le; omega), h.oldh c j hj]
  acc := fun H hH w => by
    have hH' : ∀ c j, N.n ≤ j → j < K.n → H c j = K.has c j := hH
    rw [acc_cat (a := N.n) (b := M.n) (c := K.n) (E1 := frE N.n M.beh) (E2 := frE M.n K.beh) h.f h.l g.f g.l h.wi2 g.wi2]
    · constructor
      · rintro ⟨x, y, rfl, hx, hy⟩
        exact ⟨x, y, rfl, (h.later g H hH' x).1 hx, (g.acc H (fun c j h1 h2 => hH' c j (by have := h.le; omega) h2) y).1 hy⟩
      · rintro ⟨x, y, rfl, hx, hy⟩
        exact ⟨x, y, rfl, (h.later g H hH' x).2 hx, (g.acc H (fun c j h1 h2 => hH' c j (by have := h.le; omega) h2) y).2 hy⟩
    · intro i j
      simp only [frE, Net.link, Bool.or_eq_true, Bool.and_eq_true, decide_eq_true_eq]
      constructor
      · rintro ⟨hi, e | e⟩
        · by_cases hm : i < M.n
          · rw [g.old i j hm] at e; exact .inl ⟨hi, e⟩
          · exact .inr (.inl ⟨by omega, e⟩)
        · exact .inr (.inr ⟨e.1.2, e.2⟩)
      · rintro (⟨hi, e⟩ | ⟨hi, e⟩ | ⟨e, e'⟩)
        · exact ⟨hi, .inl (by rw [g.old i j (h.wf.wi i j e).1.2]; exact e)⟩
        · exact ⟨by have := h.le; omega, .inl e⟩
        · have := h.l i e; have := g.le
          exact ⟨by omega, .inr ⟨⟨by omega, e⟩, e'⟩⟩
theorem lok_alt {N M K : Net} {a p : Prt} {P Q : List UInt8 → Prop} (h : Lok N M a P) (g : Lok M K p Q) : Lok N K (a.alt p) (fun w => P w ∨ Q w) where
  le := Nat.le_trans h.le g.le
  wf := g.wf
  f := wi_or (h.f.mono (Nat.le_refl _) g.le) (g.f.mono h.le (Nat.le_refl _))
  l := wi_or (h.l.mono (Nat.le_refl _) g.le) (g.l.mono h.le (Nat.le_refl _))
  old := fun i j hi => by rw [g.old i j (by have := h.le; omega), h.old i j hi]
  new := fun i j hi e => by
    by_cases hm : i < M.n
    · rw [g.old i j hm] at e; exact h.new i j hi e
    · have := g.new i j (by omega) e; have := h.le; omega
  oldh := fun c j hj => by rw [g.oldh c j (by have := h.le; omega), h.oldh c j hj]
  acc := fun H hH w => by
    rw [acc_alt (a := N.n) (b := M.n) (c := K.n) (E1 := frE N.n M.beh) (E2 := frE M.n K.beh) h.f h.l g.f g.l h.wi2 g.wi2]
    · rw [h.later g H hH w, g.acc H (fun c j h1 h2 => hH c j (by have := h.le; omega) h2) w]
    · intro i j
      simp only [frE, Bool.and_eq_true, decide_eq_true_eq]
      constructor
      · rintro ⟨hi, e⟩
        by_cases hm : i < M.n
        · rw [g.old i j hm] at e; exact .inl ⟨hi, e⟩
        · exact .inr ⟨by omega, e⟩
      · rintro (⟨hi, e⟩ | ⟨hi, e⟩)
        · exact ⟨hi, by rw [g.old i j (h.wf.wi i j e).1.2]; exact e⟩
        · exact ⟨by have := h.le; omega, e⟩
/-- Round again. -/
theorem lok_plus {N M : Net} {p : Prt} {P : List UInt8 → Prop} (h : Lok N M p P) (s : Bool) : Lok N (M.link p.l p.f) ⟨p.e || s, p.f, p.l⟩ (fun w => (s = true ∧ Sta P w) ∨ ∃ x y, w = x ++ y ∧ P x ∧ Sta P y) where
  le := h.le
  wf := ⟨fun i j e => by
    simp only [Net.link, Bool.or_eq_true, Bool.and_eq_true, decide_eq_true_eq] at e ⊢
    rcases e with e | e
    · exact h.wf.wi i j e
    · have := h.l i e.1.2; have := h.f j e.2; omega, fun c j e => h.wf.hs c j e⟩
  f := h.f
  l := h.l
  old := fun i j hi => by
    have : p.l i = false := by cases e : p.l i; rfl; have := h.l i e; omega
    simp only [Net.link, this, Bool.and_false, Bool.false_and, Bool.or_false]
    exact h.old i j hi
  new := fun i j hi e => by
    simp only [Net.link, Bool.or_eq_true, Bool.and_eq_true, decide_eq_true_eq] at e
    rcases e with e | e
    · exact h.new i j hi e
    · have := h.f j e.2; omega
  oldh := h.oldh
  acc := fun H hH w => by
    have hP := h.acc H hH
    have hS : ∀ w, Sta P w ↔ Sta (Acc (frE N.n M.beh) H p.f p.l) w := fun w => by
      exact Iff.trans ⟨Sta.mono fun w h => (hP w).1 h, Sta.mono fun w h => (hP w).2 h⟩ (sta_ore (e := p.e) w)
    have hE := acc_plus (E := frE N.n (M.link p.l p.f).beh) (E1 := frE N.n M.beh) (H := H) (f := p.f) (l := p.l) (fun i j => by
      simp only [frE, Net.link, Bool.or_eq_true, Bool.and_eq_true, decide_eq_true_eq]
      constructor
      · rintro ⟨hi, e | e⟩
        · exact .inl ⟨hi, e⟩
        · exact .inr ⟨e.1.2, e.2⟩
      · rintro (⟨hi, e⟩ | ⟨e, e'⟩)
        · exact ⟨hi, .inl e⟩
        · have := h.l i e; exact ⟨by omega, .inr ⟨⟨by omega, e⟩, e'⟩⟩)
    constructor
    · rintro (⟨hs, hw⟩ | ⟨x, y, rfl, hx, hy⟩)
      · rw [hS] at hw
        cases hw with
        | nil => exact .inl ⟨rfl, by simp [hs]⟩
        | app h1 h2 => exact .inr ((hE _).2 ⟨_, _, rfl, h1, h2⟩)
      · rw [hS] at hy
        rcases (hP x).1 hx with ⟨rfl, he⟩ | hx
        · cases hy with
          | nil => exact .inl ⟨rfl, by simp [he]⟩
          | @app a b h1 h2 => exact .inr ((hE _).2 ⟨a, b, rfl, h1, h2⟩)
        · exact .inr ((hE _).2 ⟨x, y, rfl, hx, hy⟩)
    · rintro (⟨rfl, he⟩ | hw)
      · simp only [Bool.or_eq_true] at he
        rcases he with he | he
        · exact .inr ⟨[], [], rfl, (hP []).2 (.inl ⟨rfl, he⟩), .nil⟩
        · exact .inl ⟨he, .nil⟩
      · obtain ⟨x, y, rfl, h1, h2⟩ := (hE w).1 hw
        exact .inr ⟨x, y, rfl, (hP x).2 (.inr h1), (hS y).2 h2⟩
theorem lok_maybe {N M : Net} {p : Prt} {P : List UInt8 → Prop} (h : Lok N M p P) : Lok N M ⟨p.e || true, p.f, p.l⟩ (fun w => w = [] ∨ P w) :=
  { h with
    acc := fun H hH w => by
      rw [h.acc H hH w]
      constructor
      · rintro (rfl | ⟨rfl, he⟩ | hw)
        · exact .inl ⟨rfl, by simp⟩
        · exact .inl ⟨rfl, by simp⟩
        · exact .inr hw
      · rintro (⟨rfl, _⟩ | hw)
        · exact .inl rfl
        · exact .inr (.inr hw) }
theorem sta_split {P : List UInt8 → Prop} (w : List UInt8) : Sta P w ↔ (True ∧ Sta P w) ∨ ∃ x y, w = x ++ y ∧ P x ∧ Sta P y :=
  ⟨fun h => .inl ⟨trivial, h⟩, fun h => h.elim (·.2) fun ⟨x, y, e, h1, h2⟩ => e ▸ .app h1 h2⟩
theorem fits_kind {k : Int} {n : Nat} (h : fitsB k n = true) : k = 0 ∨ k = 1 ∨ k = 2 ∨ k = 3 ∨ k = 4 ∨ (k = 5 ∧ n = 1) ∨ (k = 6 ∧ n = 1) ∨ (k = 7 ∧ n = 1) := by
  unfold fitsB at h
  split at h
  · omega
  · split at h
    · omega
    · split at h
      · rename_i h2; simp at h; omega
      · cases h
mutual
theorem lay_ok : ∀ (t : RT) (N : Net), mayB t = true → WFN N → Lok N (layN t N).1 (layN t N).2 (Lg t)
  | .mk k u ps, N, hm, hN => by
    rw [mayB, Bool.and_eq_true, Bool.and_eq_true] at hm
    have hk := fits_kind hm.1.1
    have hL := hm.2
    rw [layN]
    rcases hk with rfl | rfl | rfl | rfl | rfl | ⟨rfl, hl⟩ | ⟨rfl, hl⟩ | ⟨rfl, hl⟩
    · exact (lok_none hN false).imp fun w => by rw [Lg]; simp
    · exact (lok_none hN true).imp fun w => by rw [Lg]; simp
    · exact (lok_spot hN (fOf u)).imp fun w => by rw [Lg]; simp
    · exact (row_ok ps N N ⟨true, noS, noS⟩ _ hL (lok_none hN true)).imp fun w => by
        rw [Lg]; simp only [show ¬ ((3 : Int) = 0) by decide, show ¬ ((3 : Int) = 1) by decide, show ¬ ((3 : Int) = 2) by decide, if_false, if_true]
        exact ⟨fun ⟨x, y, e, h1, h2⟩ => by rw [e, h1.1]; exact h2, fun h => ⟨[], w, rfl, ⟨rfl, by simp⟩, h⟩⟩
    · exact (cho_ok ps N N ⟨false, noS, noS⟩ _ hL (lok_none hN false)).imp fun w => by
        rw [Lg]; simp only [show ¬ ((4 : Int) = 0) by decide, show ¬ ((4 : Int) = 1) by decide, show ¬ ((4 : Int) = 2) by decide, show ¬ ((4 : Int) = 3) by decide, if_false, if_true]
        exact ⟨fun h => h.resolve_left (by rintro ⟨_, h⟩; cases h), .inr⟩
    · match ps, hl, hL with
      | [t], _, hL =>
        rw [mayL, Bool.and_eq_true] at hL
        have h := lok_plus (lay_ok t N hL.1 hN) true
        refine h.imp fun w => ?_
        rw [Lg, show LgH [t] = Lg t by funext w; rw [LgH]]
        simp only [show ¬ ((5 : Int) = 0) by decide, show ¬ ((5 : Int) = 1) by decide, show ¬ ((5 : Int) = 2) by decide, show ¬ ((5 : Int) = 3) by decide, show ¬ ((5 : Int) = 4) by decide, if_false, if_true]
        exact (by simpa using (sta_split w).symm)
    · match ps, hl, hL with
      | [t], _, hL =>
        rw [mayL, Bool.and_eq_true] at hL
        have h := lok_plus (lay_ok t N hL.1 hN) false
        refine h.imp fun w => ?_
        rw [Lg, show LgH [t] = Lg t by funext w; rw [LgH]]
        simp
    · match ps, hl, hL with
      | [t], _, hL =>
        rw [mayL, Bool.and_eq_true] at hL
        have h := lok_maybe (lay_ok t N hL.1 hN)
        refine h.imp fun w => ?_
        rw [Lg, show LgH [t] = Lg t by funext w; rw [LgH]]
        simp
theorem row_ok : ∀ (ts : List RT) (N0 N : Net) (a : Prt) (P : List UInt8 → Prop), mayL ts = true → Lok N0 N a P → Lok N0 (rowN ts N a).1 (rowN ts N a).2 (fun w => ∃ x y, w = x ++ y ∧ P x ∧ LgR ts y)
  | [], N0, N, a, P, _, h => by
    rw [rowN]
    exact h.imp fun w => ⟨fun h => ⟨w, [], by simp, h, by rw [LgR]⟩, fun ⟨x, y, e, h1, h2⟩ => by rw [LgR] at h2; rw [e, h2, List.append_nil]; exact h1⟩
  | t :: ts, N0, N, a, P, hm, h => by
    rw [mayL, Bool.and_eq_true] at hm
    rw [rowN]
    exact (row_ok ts N0 _ _ _ hm.2 (lok_cat h (lay_ok t N hm.1 h.wf))).imp fun w =>
      ⟨fun ⟨x, y, e, ⟨x1, x2, e1, h1, h2⟩, h3⟩ => ⟨x1, x2 ++ y, by rw [e, e1, List.append_assoc], h1, by rw [LgR]; exact ⟨x2, y, rfl, h2, h3⟩⟩,
       fun ⟨x, y, e, h1, h2⟩ => by rw [LgR] at h2; obtain ⟨y1, y2, e1, h3, h4⟩ := h2; exact ⟨x ++ y1, y2, by rw [e, e1, List.append_assoc], ⟨x, y1, rfl, h1, h3⟩, h4⟩⟩
theorem cho_ok : ∀ (ts : List RT) (N0 N : Net) (a : Prt) (P : List UInt8 → Prop), mayL ts = true → Lok N0 N a P → Lok N0 (choN ts N a).1 (choN ts N a).2 (fun w => P w ∨ LgC ts w)
  | [], N0, N, a, P, _, h => by
    rw [choN]
    exact h.imp fun w => by rw [LgC]; simp
  | t :: ts, N0, N, a, P, hm, h => by
    rw [mayL, Bool.and_eq_true] at hm
    rw [choN]
    exact (cho_ok ts N0 _ _ _ hm.2 (lok_alt h (lay_ok t N hm.1 h.wf))).imp fun w => by rw [LgC]; exact or_assoc
end
def N0 : Net := ⟨0, fun _ _ => false, fun _ _ => false⟩
theorem wfn0 : WFN N0 := ⟨fun i j h => (by cases h), fun c j h => (by cases h)⟩
end Go.Proofs.YthglciccejholaaDoor.R5
