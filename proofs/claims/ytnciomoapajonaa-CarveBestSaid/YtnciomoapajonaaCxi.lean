/- What Need answers decides whether a row has a surface. No program is walked here. -/
import Derived.Test.YtnciomoapajonaaCwg
import Derived.Test.YtnciomoapajonaaCwl
set_option linter.unusedSimpArgs false
set_option linter.unusedVariables false
namespace Go.Proofs.Ytnciomoapajonaa
open Go Go.RowKit Cv

theorem mem_pTo (b j : Nat) (hj : j ≤ b) (p : Nat × Nat) : p ∈ pTo b j ↔ p.2 = b ∧ b - j ≤ p.1 ∧ p.1 < b := by
  unfold pTo
  simp only [List.mem_map, List.mem_range]
  constructor
  · rintro ⟨t, ht, rfl⟩
    refine ⟨rfl, ?_, ?_⟩ <;> simp only <;> omega
  · rintro ⟨h1, h2, h3⟩
    obtain ⟨a, b'⟩ := p
    simp only at h1 h2 h3
    subst h1
    exact ⟨b' - 1 - a, by omega, by simp only [Prod.mk.injEq, and_true]; omega⟩
theorem mem_pairsL : ∀ (n : Nat) (p : Nat × Nat), p ∈ pairsL n ↔ p.1 < p.2 ∧ p.2 < n := by
  intro n
  induction n with
  | zero => intro p; simp [pairsL]
  | succ n ih =>
    intro p
    rw [pairsL, List.mem_append, ih, mem_pTo n n (Nat.le_refl _)]
    omega
theorem maxN_iff (l : List Pt) (x : Int) (hx : 0 ≤ x) : ∀ (ps : List (Nat × Nat)), maxN l ps ≤ x ↔ ∀ p, p ∈ ps → needP l p ≤ x := by
  suffices h : ∀ (ps : List (Nat × Nat)) (y : Int), ps.foldl (fun x p => max x (needP l p)) y ≤ x ↔ y ≤ x ∧ ∀ p, p ∈ ps → needP l p ≤ x by
    intro ps
    rw [maxN, h]
    exact ⟨fun h => h.2, fun h => ⟨hx, h⟩⟩
  intro ps
  induction ps with
  | nil => intro y; simp
  | cons p ps ih =>
    intro y
    rw [List.foldl_cons, ih]
    simp only [List.mem_cons, forall_eq_or_imp]
    constructor
    · rintro ⟨h1, h2⟩
      exact ⟨by omega, by omega, h2⟩
    · rintro ⟨h1, h2, h3⟩
      exact ⟨by omega, h3⟩
theorem far_eq (l : List Pt) (a b : Nat) (ha : a < l.length) (hb : b < l.length) : farL l a b = far (fun i => (l.map (·.lo)).getD i 0) (fun i => (l.map (·.hi)).getD i 0) a b := by
  unfold farL far
  simp [List.getD_eq_getElem?_getD, ha, hb]
/-- With some Steep some surface is good just if it is not less than what the row needs. -/
theorem need_iff (l : List Pt) (hok : ∀ p, p ∈ l → PtOk p) (x : Int) (hx : 0 ≤ x) : maxN l (pairsL l.length) ≤ x ↔ crossB ⟨x, l⟩ = false := by
  rw [maxN_iff l x hx, cross_fits ⟨x, l⟩ hx]
  unfold Fits
  show _ ↔ ∀ a b, a < l.length → b < l.length → (l.map (·.lo)).getD a 0 ≤ (l.map (·.hi)).getD b 0 + x * steps a b
  have key : ∀ a b, a < b → b < l.length → (needP l (a, b) ≤ x ↔ (l.map (·.lo)).getD a 0 ≤ (l.map (·.hi)).getD b 0 + x * steps a b ∧ (l.map (·.lo)).getD b 0 ≤ (l.map (·.hi)).getD a 0 + x * steps b a) := by
    intro a b hab hb
    have e : needP l (a, b) = need2 (fun i => (l.map (·.lo)).getD i 0) (fun i => (l.map (·.hi)).getD i 0) a b := by
      unfold needP need2
      simp only
      rw [far_eq l a b (by omega) hb]
    rw [e, need2_le hab, far_le (Int.mul_nonneg hx (by omega))]
    have e1 : steps a b = (b : Int) - a := by unfold steps; omega
    have e2 : steps b a = (b : Int) - a := by unfold steps; omega
    rw [e1, e2]
  constructor
  · intro h a b ha hb
    rcases Nat.lt_trichotomy a b with q | q | q
    · exact ((key a b q hb).1 (h (a, b) ((mem_pairsL _ _).2 ⟨q, hb⟩))).1
    · subst q
      have := hok l[a] (List.getElem_mem _)
      have := this.le
      rw [steps_self, Int.mul_zero]
      simp [List.getD_eq_getElem?_getD, ha]
      omega
    · exact ((key b a q ha).1 (h (b, a) ((mem_pairsL _ _).2 ⟨q, ha⟩))).2
  · intro h p hp
    obtain ⟨a, b⟩ := p
    have hm := (mem_pairsL _ _).1 hp
    simp only at hm
    exact (key a b hm.1 hm.2).2 ⟨h a b (by omega) hm.2, h b a hm.2 (by omega)⟩
theorem maxN_zero (l : List Pt) (ps : List (Nat × Nat)) : 0 ≤ maxN l ps := by
  suffices h : ∀ (ps : List (Nat × Nat)) (y : Int), 0 ≤ y → 0 ≤ ps.foldl (fun x p => max x (needP l p)) y from h ps 0 (Int.le_refl _)
  intro ps
  induction ps with
  | nil => intro y h; exact h
  | cons p ps ih => intro y h; rw [List.foldl_cons]; exact ih _ (by omega)
/-- The same points with another Steep. -/
theorem valid_st {st : Int} {l : List Pt} (h : errR ⟨st, l⟩ = 0) (x : Int) (h0 : 0 ≤ x) (h200 : x ≤ 200) : errR ⟨x, l⟩ = 0 := by
  have := (check_valid _).1 h
  exact (check_valid _).2 ⟨h0, h200, this.n1, this.n10, this.ok⟩
theorem bound_st {st : Int} {l : List Pt} (h : errR ⟨st, l⟩ = 0) (x : Int) (h0 : 0 ≤ x) (h200 : x ≤ 200) : (boundsR ⟨x, l⟩).2 = if (needR ⟨st, l⟩).1 ≤ x then 0 else 9 := by
  have hv := (check_valid _).1 h
  have hx := valid_st h x h0 h200
  have hn : (needR ⟨st, l⟩).1 = maxN l (pairsL l.length) := by unfold needR; rw [if_pos h]
  have hi := need_iff l hv.ok x h0
  rw [hn]
  unfold boundsR boundE
  rw [hx]
  cases hc : crossB ⟨x, l⟩
  · rw [if_pos (hi.2 hc)]; rfl
  · have hng : ¬ maxN l (pairsL l.length) ≤ x := fun q => by rw [hi.1 q] at hc; cases hc
    rw [show (if maxN l (pairsL l.length) ≤ x then (0 : Int) else 9) = 9 from if_neg hng]
    rfl
end Go.Proofs.Ytnciomoapajonaa
