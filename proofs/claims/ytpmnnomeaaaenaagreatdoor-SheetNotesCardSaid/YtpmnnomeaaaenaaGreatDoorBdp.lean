/- What the reference's squares of bounds come to: they fit where the sheet fits, and tell the same. No program is walked here. -/
import Derived.Test.YtpmnnomeaaaenaaGreatDoorFw
import Derived.Test.YtpmnnomeaaaenaaGreatDoorSol
set_option linter.unusedSimpArgs false
set_option linter.unusedVariables false
namespace Go.Proofs.YtpmnnomeaaaenaaGreatDoor
open Go Go.RowKit Hs Dc

def minM (T : Mx) (i n : Nat) (v : Int) : Mx := fun a b => if a = i ∧ b = n then min (T i n) v else T a b
theorem sol_minM {N : Nat} {T : Mx} {i n : Nat} {v : Int} (hi : i < N) (hn : n < N) (y : Nat → Int) : Sol N (minM T i n v) y ↔ Sol N T y ∧ y i - y n ≤ v := by
  unfold Sol minM
  constructor
  · intro h
    refine ⟨fun a b ha hb => ?_, ?_⟩
    · have := h a b ha hb
      split at this
      · rename_i e; rw [e.1, e.2] at this ⊢; omega
      · exact this
    · have := h i n hi hn
      rw [if_pos ⟨rfl, rfl⟩] at this
      omega
  · rintro ⟨h, hv⟩ a b ha hb
    split
    · rename_i e
      have := h i n hi hn
      rw [e.1, e.2]
      omega
    · exact h a b ha hb
/-- The square without any note. -/
def tZero (np : Nat) : Mx := fun i k => if i = k ∨ k = np then 0 else 9000
def oIx (np : Nat) (x : Note) : Nat := if x.k = 1 ∨ x.k = 2 then np else x.b.toNat
def noteT (iv wd : Int) (np : Nat) (T : Mx) (x : Note) : Mx := minM (minM T (oIx np x) x.a.toNat (hiOf iv x + wd)) x.a.toNat (oIx np x) (wd - loOf iv x)
def bndT (iv wd : Int) (np : Nat) (l : List Note) : Mx := l.foldl (noteT iv wd np) (tZero np)
theorem bndT_succ (iv wd : Int) (np : Nat) (l : List Note) (k : Nat) (h : k < l.length) : bndT iv wd np (l.take (k + 1)) = noteT iv wd np (bndT iv wd np (l.take k)) l[k] := by
  unfold bndT
  rw [List.take_succ_eq_append_getElem h, List.foldl_append]
  rfl
/-- What the square is told of: a note of a sheet with so many points. -/
structure NtOk (iv : Int) (np : Nat) (x : Note) : Prop where
  ok : NoteOk iv x
  a : x.a.toNat < np
  b : ¬ (x.k = 1 ∨ x.k = 2) → x.b.toNat < np
  ne : oIx np x ≠ x.a.toNat
theorem NtOk.o {iv : Int} {np : Nat} {x : Note} (h : NtOk iv np x) : oIx np x < np + 1 := by
  unfold oIx
  split
  · omega
  · rename_i hk
    have := h.b hk
    omega
theorem ntOk_of {iv : Int} {np : Nat} {x : Note} (hiv : 1 ≤ iv) (hnp : np ≤ 8) (h : noteErr iv np x = 0) : NtOk iv np x := by
  have ok := noteOk_of iv np x hiv (by omega) h
  have hab : (0 ≤ x.a ∧ x.a ≤ (np : Int) - 1) ∧ 0 ≤ x.b ∧ x.b ≤ (np : Int) - 1 := by
    unfold noteErr at h
    split at h
    · cases h
    split at h
    · cases h
    rename_i h2
    simp [withinB] at h2
    omega
  have hne := ok.ne
  refine ⟨ok, by omega, fun _ => by omega, ?_⟩
  · unfold oIx
    unfold over at hne
    split
    · omega
    · rename_i hk
      rw [if_neg hk] at hne
      omega
theorem sol_foldT {iv wd : Int} {np : Nat} (y : Nat → Int) : ∀ (l : List Note) (T : Mx), (∀ x, x ∈ l → NtOk iv np x) →
    (Sol (np + 1) (l.foldl (noteT iv wd np) T) y ↔ Sol (np + 1) T y ∧ ∀ x, x ∈ l → y (oIx np x) - y x.a.toNat ≤ hiOf iv x + wd ∧ y x.a.toNat - y (oIx np x) ≤ wd - loOf iv x) := by
  intro l
  induction l with
  | nil => intro T _; simp
  | cons x l ih =>
    intro T hl
    have hx := hl x (by simp)
    have ha := hx.a
    rw [List.foldl_cons, ih _ (fun z hz => hl z (by simp [hz]))]
    unfold noteT
    rw [sol_minM (by omega) hx.o, sol_minM hx.o (by omega)]
    simp only [List.mem_cons]
    constructor
    · rintro ⟨⟨⟨a, b⟩, c⟩, d⟩
      refine ⟨a, fun z hz => ?_⟩
      rcases hz with rfl | hz
      · exact ⟨b, c⟩
      · exact d z hz
    · rintro ⟨a, b⟩
      have q := b x (.inl rfl)
      exact ⟨⟨⟨a, q.1⟩, q.2⟩, fun z hz => b z (.inr hz)⟩
theorem foldT_bd {iv wd : Int} {np : Nat} (h0 : 0 ≤ wd) : ∀ (l : List Note) (T : Mx), (∀ x, x ∈ l → NtOk iv np x) → (∀ a b, -9000 ≤ T a b ∧ T a b ≤ 9000) → ∀ a b, -9000 ≤ l.foldl (noteT iv wd np) T a b ∧ l.foldl (noteT iv wd np) T a b ≤ 9000 := by
  intro l
  induction l with
  | nil => intro T _ h; exact h
  | cons x l ih =>
    intro T hl h
    have hx := (hl x (by simp)).ok
    have l9 := hx.l9
    have h0' := hx.h0
    refine ih _ (fun z hz => hl z (by simp [hz])) fun a b => ?_
    have g1 := h (oIx np x) x.a.toNat
    have g2 := h x.a.toNat (oIx np x)
    have g := h a b
    unfold noteT minM
    split
    · rename_i e1
      split
      · omega
      · omega
    · split
      · omega
      · exact g
theorem tZero_bd (np : Nat) (a b : Nat) : -9000 ≤ tZero np a b ∧ tZero np a b ≤ 9000 := by unfold tZero; split <;> omega
theorem bndT_bd {iv wd : Int} {np : Nat} (h0 : 0 ≤ wd) {l : List Note} (hl : ∀ x, x ∈ l → NtOk iv np x) (a b : Nat) : -9000 ≤ bndT iv wd np l a b ∧ bndT iv wd np l a b ≤ 9000 := foldT_bd h0 l _ hl (tZero_bd np) a b
theorem foldT_diag {iv wd : Int} {np : Nat} : ∀ (l : List Note) (T : Mx), (∀ x, x ∈ l → NtOk iv np x) → ∀ a, l.foldl (noteT iv wd np) T a a = T a a := by
  intro l
  induction l with
  | nil => intro T _ a; rfl
  | cons x l ih =>
    intro T hl a
    have hx := (hl x (by simp)).ne
    rw [List.foldl_cons, ih _ (fun z hz => hl z (by simp [hz])) a]
    unfold noteT minM
    rw [if_neg (by omega), if_neg (by omega)]
theorem bndT_diag {iv wd : Int} {np : Nat} {l : List Note} (hl : ∀ x, x ∈ l → NtOk iv np x) (a : Nat) : bndT iv wd np l a a = 0 := by
  unfold bndT
  rw [foldT_diag l _ hl a]
  simp [tZero]

def emb (np : Nat) (h : Nat → Int) : Nat → Int := fun i => if i < np then -(h i) else -(h 8)
def jx (np a : Nat) : Nat := if a < np then a else np
def back (np : Nat) (y : Nat → Int) : Nat → Int := fun i => -(y (jx np i))
theorem fin9_ix {np : Nat} (hnp : np ≤ 8) {iv : Int} {x : Note} (hx : NtOk iv np x) (h : Nat → Int) : emb np h x.a.toNat = -(h (fin9 x.a)) ∧ emb np h (oIx np x) = -(h (fin9 (over x))) := by
  have va := fin9_val x.a hx.ok.a0 (by have := hx.ok.a8; omega)
  have vo := fin9_val (over x) hx.ok.o0 hx.ok.o8
  have ha := hx.a
  have ho := hx.o
  refine ⟨?_, ?_⟩
  · unfold emb
    rw [if_pos ha]
    rw [show ((fin9 x.a : Fin 9) : Nat) = x.a.toNat by omega]
  · by_cases hk : x.k = 1 ∨ x.k = 2
    · have e1 : oIx np x = np := if_pos hk
      have e2 : over x = 8 := if_pos hk
      rw [e1, e2]
      rw [e2] at vo
      unfold emb
      rw [if_neg (by omega)]
      rw [show ((fin9 8 : Fin 9) : Nat) = 8 by omega]
    · have e1 : oIx np x = x.b.toNat := if_neg hk
      have e2 : over x = x.b := if_neg hk
      rw [e1, e2]
      rw [e2] at vo
      unfold emb
      rw [if_pos (hx.b hk)]
      have := hx.ok.b0
      rw [show ((fin9 x.b : Fin 9) : Nat) = x.b.toNat by omega]
theorem jx_ix {np : Nat} (hnp : np ≤ 8) {iv : Int} {x : Note} (hx : NtOk iv np x) : jx np (fin9 x.a) = x.a.toNat ∧ jx np (fin9 (over x)) = oIx np x := by
  have va := fin9_val x.a hx.ok.a0 (by have := hx.ok.a8; omega)
  have vo := fin9_val (over x) hx.ok.o0 hx.ok.o8
  have ha := hx.a
  refine ⟨?_, ?_⟩
  · unfold jx
    rw [if_pos (by omega)]
    omega
  · by_cases hk : x.k = 1 ∨ x.k = 2
    · have e1 : oIx np x = np := if_pos hk
      have e2 : over x = 8 := if_pos hk
      rw [e1]
      rw [e2] at vo ⊢
      unfold jx
      rw [if_neg (by omega)]
    · have e1 : oIx np x = x.b.toNat := if_neg hk
      have e2 : over x = x.b := if_neg hk
      have hb := hx.b hk
      have := hx.ok.b0
      rw [e1]
      rw [e2] at vo ⊢
      unfold jx
      rw [if_pos (by omega)]
      omega
/-- Heights that keep to the notes, the other way round, keep to the square. -/
theorem sol_emb {iv wd : Int} {np : Nat} (hnp : np ≤ 8) (h0 : 0 ≤ wd) {l : List Note} (hl : ∀ x, x ∈ l → NtOk iv np x) {h : Nat → Int} (ht : TrB (bdsL iv wd l) h) : Sol (np + 1) (bndT iv wd np l) (emb np h) := by
  rw [TrB_notes] at ht
  obtain ⟨hs, hn⟩ := ht
  refine (sol_foldT _ l _ hl).2 ⟨fun i k hi hk => ?_, fun x hx => ?_⟩
  · have hs' : ∀ x y, x < 9 → y < 9 → h x - h y ≤ if x ≠ y ∧ x ≠ 8 then 9000 else 0 := fun x y hx hy => by
      have u := hs x y hx hy
      have v := unbFar_ent ⟨x, hx⟩ ⟨y, hy⟩
      simp only at v
      rwa [v] at u
    unfold emb tZero
    by_cases h1 : i < np <;> by_cases h2 : k < np
    · have u := hs' k i (by omega) (by omega)
      rw [if_pos h1, if_pos h2]
      by_cases e : i = k
      · rw [if_pos (.inl e)]; subst e; omega
      · rw [if_neg (by omega)]; split at u <;> omega
    · have u := hs' 8 i (by omega) (by omega)
      rw [if_pos h1, if_neg h2]
      rw [if_pos (by omega)]
      rw [if_neg (by omega)] at u
      omega
    · have u := hs' k 8 (by omega) (by omega)
      rw [if_neg h1, if_pos h2]
      rw [if_neg (by omega)]
      split at u <;> omega
    · rw [if_neg h1, if_neg h2]
      rw [if_pos (by omega)]
      omega
  · have hx' := hl x hx
    obtain ⟨e1, e2⟩ := fin9_ix hnp hx' h
    have hn := hn x hx
    rw [NoteM_iff] at hn
    have l9 := hx'.ok.l9
    have g0 := hx'.ok.h0
    rw [e1, e2]
    unfold cl at hn
    omega
/-- ... and back. -/
theorem sol_back {iv wd : Int} {np : Nat} (hnp : np ≤ 8) (h0 : 0 ≤ wd) (h9 : wd ≤ 20000) {l : List Note} (hl : ∀ x, x ∈ l → NtOk iv np x) {y : Nat → Int} (hy : Sol (np + 1) (bndT iv wd np l) y) : TrB (bdsL iv wd l) (back np y) := by
  obtain ⟨hs, hn⟩ := (sol_foldT y l _ hl).1 hy
  have hz : Sol 9 (ent unbFar) (back np y) := by
    intro a b ha hb
    have v := unbFar_ent ⟨a, ha⟩ ⟨b, hb⟩
    simp only at v
    rw [v]
    have u := hs (jx np b) (jx np a) (by unfold jx; split <;> omega) (by unfold jx; split <;> omega)
    unfold back
    unfold tZero at u
    by_cases e : a = b
    · subst e; split <;> omega
    · by_cases e8 : a = 8
      · have : jx np a = np := by unfold jx; rw [if_neg (by omega)]
        rw [if_pos (.inr this)] at u
        rw [if_neg (by omega)]
        omega
      · rw [if_pos ⟨e, e8⟩]
        split at u <;> omega
  rw [TrB_notes]
  refine ⟨hz, fun x hx => ?_⟩
  have hx' := hl x hx
  obtain ⟨e1, e2⟩ := jx_ix hnp hx'
  have hn := hn x hx
  have l9 := hx'.ok.l9
  have g0 := hx'.ok.h0
  have s1 := hz (fin9 x.a) (fin9 (over x)) (Fin.isLt _) (Fin.isLt _)
  have s2 := hz (fin9 (over x)) (fin9 x.a) (Fin.isLt _) (Fin.isLt _)
  rw [unbFar_ent] at s1 s2
  have t1 : back np y (fin9 x.a) - back np y (fin9 (over x)) ≤ 9000 := by split at s1 <;> omega
  have t2 : back np y (fin9 (over x)) - back np y (fin9 x.a) ≤ 9000 := by split at s2 <;> omega
  clear s1 s2
  rw [NoteM_iff]
  unfold back at t1 t2 ⊢
  rw [e1, e2] at t1 t2 ⊢
  unfold cl
  omega
/-- Between points and ground the two are each other's opposite. -/
theorem emb_jx {np : Nat} (h : Nat → Int) {a : Nat} (ha : a < np ∨ a = 8) (hnp : np ≤ 8) : emb np h (jx np a) = -(h a) := by
  unfold emb jx
  rcases ha with ha | rfl
  · rw [if_pos ha, if_pos ha]
  · have e : (if 8 < np then 8 else np) = np := if_neg (by omega)
    rw [e, if_neg (by omega)]
def refB (iv wd : Int) (np : Nat) (l : List Note) : Bool := diagOk (np + 1) (fwF (np + 1) (bndT iv wd np l) (np + 1))
def refM (iv wd : Int) (np : Nat) (l : List Note) : Mx := fwF (np + 1) (bndT iv wd np l) (np + 1)
theorem refB_iff {iv wd : Int} {np : Nat} (hnp : np ≤ 8) (h0 : 0 ≤ wd) (h9 : wd ≤ 20000) {l : List Note} (hl : ∀ x, x ∈ l → NtOk iv np x) : refB iv wd np l = fitB iv wd l := by
  rw [Bool.eq_iff_iff, fitB_iff]
  unfold refB
  rw [fwF_fits (fun a _ => bndT_diag hl a)]
  exact ⟨fun ⟨y, hy⟩ => ⟨_, sol_back hnp h0 h9 hl hy⟩, fun ⟨h, hh⟩ => ⟨_, sol_emb hnp h0 hl hh⟩⟩
theorem refM_closed {iv wd : Int} {np : Nat} {l : List Note} (hl : ∀ x, x ∈ l → NtOk iv np x) (hf : refB iv wd np l = true) : Closed (np + 1) (refM iv wd np l) := fwF_closed (fun a _ => bndT_diag hl a) ((diagOk_iff _ _).1 hf)
theorem refM_ent {iv wd : Int} {np : Nat} (hnp : np ≤ 8) (h0 : 0 ≤ wd) (h9 : wd ≤ 20000) {l : List Note} (hl : ∀ x, x ∈ l → NtOk iv np x) (hf : fitB iv wd l = true) {a b : Nat} (ha : a < np ∨ a = 8) (hb : b < np ∨ b = 8) :
    refM iv wd np l (jx np b) (jx np a) = ent (farM iv wd l) a b := by
  have hc := refM_closed hl ((refB_iff hnp h0 h9 hl).trans hf)
  have hja : jx np a < np + 1 := by unfold jx; split <;> omega
  have hjb : jx np b < np + 1 := by unfold jx; split <;> omega
  obtain ⟨m1, y, hy, m2⟩ := hc.most hjb hja
  refine IsMost.unique (P := TrB (bdsL iv wd l)) (a := a) (b := b) ⟨fun h hh => ?_, back np y, sol_back hnp h0 h9 hl ((fwF_sol y).2 hy), ?_⟩ (farM_most iv wd l hf (by omega) (by omega))
  · have := m1 _ ((fwF_sol _).1 (sol_emb hnp h0 hl hh))
    rw [emb_jx h hb hnp, emb_jx h ha hnp] at this
    omega
  · unfold back
    omega
theorem refM_bd {iv wd : Int} {np : Nat} (hnp : np ≤ 8) (h0 : 0 ≤ wd) {l : List Note} (hl : ∀ x, x ∈ l → NtOk iv np x) {a b : Nat} (ha : a < np + 1) (hb : b < np + 1) : -1000000000000 ≤ refM iv wd np l a b ∧ refM iv wd np l a b ≤ 9000 := by
  have h1 := (fwF_keeps (T := bndT iv wd np l) (N := np + 1) (np + 1) (Nat.le_refl _)).le a b ha hb
  have h2 := fwF_low (N := np + 1) (T := bndT iv wd np l) (L := 9000) (by decide) (fun a b _ _ => (bndT_bd h0 hl a b).1) (np + 1) (Nat.le_refl _) a b ha hb
  have h3 := (bndT_bd h0 hl a b).2
  have h4 : pow6 (np + 1) ≤ 10077696 := by
    have := pow6_le np (by omega)
    rw [pow6]; omega
  unfold refM
  omega

/-! ### The highest points -/
def topT (F : Mx) (p : Nat) : Nat → Mx
  | 0 => F
  | i + 1 => minM (topT F p i) p i 0
theorem topT_sol {N : Nat} {F : Mx} {p : Nat} (hp : p < N) (y : Nat → Int) : ∀ i, i ≤ N → (Sol N (topT F p i) y ↔ Sol N F y ∧ ∀ j, j < i → y p - y j ≤ 0) := by
  intro i
  induction i with
  | zero => intro _; simp [topT]
  | succ i ih =>
    intro hi
    rw [topT, sol_minM hp (by omega), ih (by omega)]
    constructor
    · rintro ⟨⟨a, b⟩, c⟩
      refine ⟨a, fun j hj => ?_⟩
      rcases Nat.lt_or_ge j i with q | q
      · exact b j q
      · obtain rfl : j = i := by omega
        exact c
    · rintro ⟨a, b⟩
      exact ⟨⟨a, fun j hj => b j (by omega)⟩, b i (by omega)⟩
theorem topT_bd {F : Mx} {p N : Nat} (h : ∀ a b, a < N → b < N → -9000 ≤ F a b ∧ F a b ≤ 9000) (hp : p < N) : ∀ i, i ≤ N → ∀ a b, a < N → b < N → -9000 ≤ topT F p i a b ∧ topT F p i a b ≤ 9000 := by
  intro i
  induction i with
  | zero => intro _; exact h
  | succ i ih =>
    intro hi a b ha hb
    rw [topT]
    unfold minM
    split
    · have := ih (by omega) p i hp (by omega)
      omega
    · exact ih (by omega) a b ha hb
theorem topT_diag {F : Mx} {p N : Nat} (h : ∀ a, a < N → F a a = 0) (hp : p < N) : ∀ i, i ≤ N → ∀ a, a < N → topT F p i a a = 0 := by
  intro i
  induction i with
  | zero => intro _; exact h
  | succ i ih =>
    intro hi a ha
    rw [topT]
    unfold minM
    split
    · rename_i e
      obtain ⟨rfl, rfl⟩ := e
      rw [ih (by omega) a ha]
      rfl
    · exact ih (by omega) a ha
theorem top_iff {iv : Int} {np : Nat} (hnp : np ≤ 8) {l : List Note} (hl : ∀ x, x ∈ l → NtOk iv np x) (hf : fitB iv 0 l = true) {p : Nat} (hp : p < np) :
    diagOk (np + 1) (fwF (np + 1) (topT (refM iv 0 np l) p np) (np + 1)) = topB (farM iv 0 l) p np := by
  have hc := refM_closed hl ((refB_iff hnp (Int.le_refl 0) (by omega) hl).trans hf)
  obtain ⟨hcf, hsf⟩ := farM_closed iv 0 l hf
  rw [Bool.eq_iff_iff, fwF_fits (fun a ha => topT_diag hc.diag (by omega) np (by omega) a ha)]
  simp only [topT_sol (F := refM iv 0 np l) (show p < np + 1 by omega) _ np (by omega)]
  unfold topB
  rw [List.all_eq_true]
  constructor
  · rintro ⟨y, hy, ht⟩ b hb
    have hb := List.mem_range.1 hb
    have q := (farM_most iv 0 l hf (show p < 9 by omega) (show b < 9 by omega)).1 _ (sol_back hnp (Int.le_refl 0) (by omega) hl ((fwF_sol y).2 hy))
    have := ht b hb
    unfold back at q
    rw [show jx np p = p from if_pos hp, show jx np b = b from if_pos hb] at q
    unfold ent at q
    exact decide_eq_true (by omega)
  · intro h
    have hr := hcf.row (show p < 9 by omega)
    refine ⟨emb np _, (fwF_sol _).1 (sol_emb hnp (Int.le_refl 0) hl ((hsf _).2 hr)), fun j hj => ?_⟩
    have := h j (List.mem_range.2 hj)
    have d := hcf.diag p (by omega)
    unfold emb
    rw [if_pos hp, if_pos hj]
    have e : 0 ≤ ent (farM iv 0 l) p j := by unfold ent; simpa using this
    simp only
    rw [d]
    omega
end Go.Proofs.YtpmnnomeaaaenaaGreatDoor
