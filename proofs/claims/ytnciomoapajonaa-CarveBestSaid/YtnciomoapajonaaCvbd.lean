/- Rows of boards as plain data: bands that are narrowed in their place. No program is named here. -/
import Derived.Test.YtnciomoapajonaaCvbb
set_option linter.unusedSimpArgs false
set_option linter.unusedVariables false
namespace Cv
abbrev Sp := Int × Int
/-- Swept from the left, the upper ends. -/
def hsw (st : Int) (l : List Int) : List Int := (sweep st (l.map fun x => -x)).map fun x => -x
theorem hsw_length (st : Int) (l : List Int) : (hsw st l).length = l.length := by simp [hsw, sweep_length]
theorem hsw_zero (st : Int) (l : List Int) : (hsw st l).getD 0 0 = l.getD 0 0 := by
  unfold hsw
  rw [neg_getD, sweep_zero, neg_getD]
  omega
theorem hsw_succ (st : Int) (l : List Int) (i : Nat) (h : i + 1 < l.length) : (hsw st l).getD (i + 1) 0 = min (l.getD (i + 1) 0) ((hsw st l).getD i 0 + st) := by
  unfold hsw
  rw [neg_getD, neg_getD, sweep_succ _ _ _ (by simpa using h), neg_getD]
  omega
/-- Bands, narrowed from the left. -/
def nar (st : Int) (bs : List Sp) : List Sp := (List.range bs.length).map fun i => ((sweep st (bs.map (·.1))).getD i 0, (hsw st (bs.map (·.2))).getD i 0)
theorem nar_length (st : Int) (bs : List Sp) : (nar st bs).length = bs.length := by simp [nar]
/-- Narrowed as far as some point. -/
def narTo (st : Int) (bs : List Sp) (k : Nat) : List Sp := (List.range bs.length).map fun i => if i ≤ k then ((sweep st (bs.map (·.1))).getD i 0, (hsw st (bs.map (·.2))).getD i 0) else bs.getD i (0, 0)
theorem narTo_length (st : Int) (bs : List Sp) (k : Nat) : (narTo st bs k).length = bs.length := by simp [narTo]
theorem getD_fst (bs : List Sp) (i : Nat) : (bs.map (·.1)).getD i 0 = (bs.getD i (0, 0)).1 := by
  simp only [List.getD_eq_getElem?_getD, List.getElem?_map]
  cases bs[i]? <;> rfl
theorem getD_snd (bs : List Sp) (i : Nat) : (bs.map (·.2)).getD i 0 = (bs.getD i (0, 0)).2 := by
  simp only [List.getD_eq_getElem?_getD, List.getElem?_map]
  cases bs[i]? <;> rfl
theorem narTo_zero (st : Int) (bs : List Sp) : narTo st bs 0 = bs := by
  apply List.ext_getElem
  · simp [narTo]
  · intro i h1 h2
    simp only [narTo, List.getElem_map, List.getElem_range]
    by_cases h : i ≤ 0
    · obtain rfl : i = 0 := by omega
      rw [if_pos h, sweep_zero, hsw_zero, getD_fst, getD_snd]
      simp [List.getD_eq_getElem?_getD, h2]
    · rw [if_neg h]
      simp [List.getD_eq_getElem?_getD, h2]
theorem narTo_all (st : Int) (bs : List Sp) (k : Nat) (h : bs.length ≤ k + 1) : narTo st bs k = nar st bs := by
  unfold narTo nar
  apply List.map_congr_left
  intro i hi
  have := List.mem_range.1 hi
  rw [if_pos (by omega)]
theorem narTo_get (st : Int) (bs : List Sp) (k i : Nat) (h : i < bs.length) : (narTo st bs k).getD i (0, 0) = if i ≤ k then ((sweep st (bs.map (·.1))).getD i 0, (hsw st (bs.map (·.2))).getD i 0) else bs.getD i (0, 0) := by
  unfold narTo
  rw [List.getD_eq_getElem?_getD, List.getElem?_map, List.getElem?_range h]
  rfl
/-- One point further. -/
theorem narTo_succ (st : Int) (bs : List Sp) (k : Nat) (h : k + 1 < bs.length) :
    narTo st bs (k + 1) = (narTo st bs k).set (k + 1) (max ((narTo st bs k).getD (k + 1) (0, 0)).1 (((narTo st bs k).getD k (0, 0)).1 - st), min ((narTo st bs k).getD (k + 1) (0, 0)).2 (((narTo st bs k).getD k (0, 0)).2 + st)) := by
  rw [narTo_get st bs k (k + 1) h, narTo_get st bs k k (by omega), if_neg (by omega), if_pos (Nat.le_refl _)]
  simp only
  have e1 := sweep_succ st (bs.map (·.1)) k (by simpa using h)
  have e2 := hsw_succ st (bs.map (·.2)) k (by simpa using h)
  rw [getD_fst] at e1
  rw [getD_snd] at e2
  rw [← e1, ← e2]
  apply List.ext_getElem
  · simp [narTo]
  · intro i h1 h2
    rw [List.getElem_set]
    simp only [narTo, List.getElem_map, List.getElem_range]
    by_cases e : k + 1 = i
    · subst e
      rw [if_pos rfl, if_pos (Nat.le_refl _)]
    · rw [if_neg e]
      by_cases q : i ≤ k
      · rw [if_pos q, if_pos (by omega)]
      · rw [if_neg q, if_neg (by omega)]
/-- Bands as they are at last. -/
def bandsR (r : Row) : List Sp := (List.range r.pts.length).map fun i => (lowF r i, highF r i)
def startR (r : Row) : List Sp := r.pts.map fun p => (p.lo, p.hi)
theorem startR_length (r : Row) : (startR r).length = r.pts.length := by simp [startR]
theorem bandsR_length (r : Row) : (bandsR r).length = r.pts.length := by simp [bandsR]
theorem nar_fst (st : Int) (bs : List Sp) : (nar st bs).map (·.1) = sweep st (bs.map (·.1)) := by
  apply List.ext_getElem
  · simp [nar, sweep_length]
  · intro i h1 h2
    simp [nar, List.getD_eq_getElem?_getD, h2]
theorem nar_snd (st : Int) (bs : List Sp) : (nar st bs).map (·.2) = hsw st (bs.map (·.2)) := by
  apply List.ext_getElem
  · simp [nar, hsw_length]
  · intro i h1 h2
    simp [nar, List.getD_eq_getElem?_getD, h2]
theorem neg_neg_map (l : List Int) : (l.map fun x => -x).map (fun x => -x) = l := by
  rw [List.map_map]
  have : ((fun x : Int => -x) ∘ fun x => -x) = id := by funext x; simp
  rw [this, List.map_id]
theorem pair_ext {a b : List Sp} (h1 : a.map (·.1) = b.map (·.1)) (h2 : a.map (·.2) = b.map (·.2)) : a = b := by
  have hl : a.length = b.length := by simpa using congrArg List.length h1
  apply List.ext_getElem hl
  intro i ha hb
  have e1 := List.getElem_of_eq h1 (by simpa using ha)
  have e2 := List.getElem_of_eq h2 (by simpa using ha)
  simp only [List.getElem_map] at e1 e2
  exact Prod.ext e1 e2
/-- Narrowed, turned, narrowed, and turned again. -/
theorem nar_all (r : Row) : (nar r.st (nar r.st (startR r)).reverse).reverse = bandsR r := by
  apply pair_ext
  · rw [List.map_reverse, nar_fst, List.map_reverse, nar_fst]
    have e : (startR r).map (·.1) = los r := by simp [startR, los, Function.comp_def]
    rw [e]
    apply List.ext_getElem
    · simp [sweep_length, los_length, bandsR_length]
    · intro i h1 h2
      simp only [bandsR, List.getElem_map, List.getElem_range, lowF, lowR, low]
      rw [List.getD_eq_getElem?_getD, List.getElem?_eq_getElem h1]
      rfl
  · rw [List.map_reverse, nar_snd, List.map_reverse, nar_snd]
    have e : (startR r).map (·.2) = his r := by simp [startR, his, Function.comp_def]
    rw [e]
    have e2 : (hsw r.st (hsw r.st (his r)).reverse).reverse = highR r := by
      unfold highR high low hsw
      rw [List.map_reverse, neg_neg_map, List.map_reverse]
    rw [e2]
    apply List.ext_getElem
    · simp [highR, high_length, his_length, bandsR_length]
    · intro i h1 h2
      simp only [bandsR, List.getElem_map, List.getElem_range, highF]
      rw [List.getD_eq_getElem?_getD, List.getElem?_eq_getElem h1]
      rfl
theorem cross_bands (r : Row) : (bandsR r).any (fun b => decide (b.2 < b.1)) = crossB r := by
  unfold bandsR crossB
  rw [List.any_map]
  rfl
/-- No end is a great number, so long as the ends were none. -/
theorem sweep_bd (st : Int) (hst : 0 ≤ st) (l : List Int) (lo hi : Int) (h : ∀ x, x ∈ l → lo ≤ x ∧ x ≤ hi) (i : Nat) (hi' : i < l.length) : lo ≤ (sweep st l).getD i 0 ∧ (sweep st l).getD i 0 ≤ hi := by
  induction i with
  | zero =>
    rw [sweep_zero]
    have := h l[0] (List.getElem_mem hi')
    simpa [List.getD_eq_getElem?_getD, hi'] using this
  | succ i ih =>
    rw [sweep_succ st l i hi']
    have a := ih (by omega)
    have b := h l[i + 1] (List.getElem_mem hi')
    have e : l.getD (i + 1) 0 = l[i + 1] := by simp [List.getD_eq_getElem?_getD, hi']
    rw [e]
    omega
theorem hsw_bd (st : Int) (hst : 0 ≤ st) (l : List Int) (lo hi : Int) (h : ∀ x, x ∈ l → lo ≤ x ∧ x ≤ hi) (i : Nat) (hi' : i < l.length) : lo ≤ (hsw st l).getD i 0 ∧ (hsw st l).getD i 0 ≤ hi := by
  unfold hsw
  rw [neg_getD]
  have := sweep_bd st hst (l.map fun x => -x) (-hi) (-lo) (fun x hx => by
    obtain ⟨y, hy, rfl⟩ := List.mem_map.1 hx
    have := h y hy
    omega) i (by simpa using hi')
  omega
def SpOk (b : Sp) : Prop := 0 ≤ b.1 ∧ b.1 ≤ 9000 ∧ 0 ≤ b.2 ∧ b.2 ≤ 9000
theorem narTo_ok (st : Int) (hst : 0 ≤ st) (bs : List Sp) (h : ∀ b, b ∈ bs → SpOk b) (k : Nat) : ∀ b, b ∈ narTo st bs k → SpOk b := by
  intro b hb
  obtain ⟨i, hi, rfl⟩ := List.mem_map.1 hb
  have hi' := List.mem_range.1 hi
  split
  · have a1 := sweep_bd st hst (bs.map (·.1)) 0 9000 (fun x hx => by obtain ⟨y, hy, rfl⟩ := List.mem_map.1 hx; have := h y hy; exact ⟨this.1, this.2.1⟩) i (by simpa using hi')
    have a2 := hsw_bd st hst (bs.map (·.2)) 0 9000 (fun x hx => by obtain ⟨y, hy, rfl⟩ := List.mem_map.1 hx; have := h y hy; exact this.2.2) i (by simpa using hi')
    exact ⟨a1.1, a1.2, a2.1, a2.2⟩
  · have e : bs.getD i (0, 0) = bs[i] := by simp [List.getD_eq_getElem?_getD, hi']
    rw [e]
    exact h _ (List.getElem_mem _)
theorem nar_ok (st : Int) (hst : 0 ≤ st) (bs : List Sp) (h : ∀ b, b ∈ bs → SpOk b) : ∀ b, b ∈ nar st bs → SpOk b := by
  rw [← narTo_all st bs bs.length (by omega)]
  exact narTo_ok st hst bs h _
theorem startR_ok (r : Row) (hv : Valid r) : ∀ b, b ∈ startR r → SpOk b := by
  intro b hb
  obtain ⟨p, hp, rfl⟩ := List.mem_map.1 hb
  have := hv.ok p hp
  exact ⟨this.l0, this.l9, this.h0, this.h9⟩
end Cv
