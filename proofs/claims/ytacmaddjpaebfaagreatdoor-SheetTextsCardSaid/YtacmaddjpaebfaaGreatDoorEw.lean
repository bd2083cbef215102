/- The example that does not fit, reckoned. -/
import Derived.Test.YtacmaddjpaebfaaGreatDoorEv
set_option linter.unusedSimpArgs false
set_option linter.unusedVariables false
namespace Go.Proofs.YtacmaddjpaebfaaGreatDoor
open Go Go.RowKit Hs Dc

/-- Heights keep to a note. -/
def okN (h : List Int) (wd : Int) (x : Note) : Bool := (bds 100 wd x).all fun y => decide (h.getD y.1.val 0 - h.getD y.2.1.val 0 ≤ cl y.2.2)
def okU (h : List Int) : Bool := (List.range 9).all fun a => (List.range 9).all fun b => decide (h.getD a 0 - h.getD b 0 ≤ ent unbFar a b)
theorem fit_wit (h : List Int) (wd : Int) (l : List Note) (hU : okU h = true) (hN : ∀ x, x ∈ l → okN h wd x = true) : fitB 100 wd l = true := by
  unfold fitB
  refine (tightB_iff _ (start_apL _)).2 ⟨fun a => h.getD a 0, ?_⟩
  rw [sol_apL]
  constructor
  · intro a b ha hb
    unfold okU at hU
    rw [List.all_eq_true] at hU
    have h1 := hU a (by simpa using ha)
    rw [List.all_eq_true] at h1
    have h2 := h1 b (by simpa using hb)
    exact of_decide_eq_true h2
  · intro y hy
    unfold bdsL at hy
    rw [List.mem_flatMap] at hy
    obtain ⟨n, hn, hy⟩ := hy
    have h1 := hN n hn
    unfold okN at h1
    rw [List.all_eq_true] at h1
    exact of_decide_eq_true (h1 y hy)
theorem fit_no (wd : Int) (l : List Note) (h0 : 0 ≤ wd) (h60 : wd < 60) (a : (⟨1, 0, 0, 1180, 1200⟩ : Note) ∈ l) (b : (⟨2, 1, 0, 9, 10⟩ : Note) ∈ l) (c : exSteep ∈ l) : fitB 100 wd l = false := by
  cases hf : fitB 100 wd l
  · rfl
  · exfalso
    unfold fitB at hf
    obtain ⟨h, hs⟩ := (tightB_iff _ (start_apL _)).1 hf
    rw [sol_apL] at hs
    have key : ∀ n, n ∈ l → ∀ y, y ∈ bds 100 wd n → h y.1.val - h y.2.1.val ≤ cl y.2.2 := fun n hn y hy => hs.2 y (by unfold bdsL; rw [List.mem_flatMap]; exact ⟨n, hn, hy⟩)
    have k1 : h 8 - h 0 ≤ cl (wd - 1180) := key _ a (8, 0, wd - 1180) (by simp [bds, over, loOf, hiOf, fin9])
    have k2 : h 1 - h 8 ≤ cl (1000 + wd) := key _ b (1, 8, 1000 + wd) (by simp [bds, over, loOf, hiOf, fin9])
    have k3 : h 0 - h 1 ≤ cl (wd - 0) := key _ c (0, 1, wd - 0) (by simp [bds, over, loOf, hiOf, fin9, exSteep])
    rw [cl_id _ (by omega) (by omega)] at k1 k2 k3
    omega

theorem havK_has (l : List Note) (list : List Int) (inn : Bool) (k : Nat) (i : Nat) (x : Note) (hi : i < k) (hx : l[i]? = some x) (hd : decide ((i : Int) ∈ list) = inn) : x ∈ havK l list inn k := by
  induction k with
  | zero => omega
  | succ k ih =>
    unfold havK
    rcases Nat.lt_or_ge i k with h | h
    · have := ih h
      split
      · exact List.mem_append_left _ this
      · exact this
    · obtain rfl : i = k := by omega
      rw [if_pos hd, hx]
      exact List.mem_append_right _ (by simp)
theorem havK_of (l : List Note) (list : List Int) (inn : Bool) (k : Nat) (x : Note) (h : x ∈ havK l list inn k) : ∃ i, i < k ∧ l[i]? = some x ∧ decide ((i : Int) ∈ list) = inn := by
  induction k with
  | zero => simp [havK] at h
  | succ k ih =>
    unfold havK at h
    split at h
    · rename_i hd
      rw [List.mem_append] at h
      rcases h with h | h
      · obtain ⟨i, a, b⟩ := ih h; exact ⟨i, by omega, b⟩
      · exact ⟨k, by omega, by simpa using h, hd⟩
    · obtain ⟨i, a, b⟩ := ih h; exact ⟨i, by omega, b⟩

def exBn : List Note := exNotes ++ [exSteep]
/-- With some of the notes of the example: it does not fit just if three of them are there. -/
theorem exB_fit (list : List Int) (inn : Bool) : fitB 100 0 (havK exBn list inn 5) = !(decide (decide ((0 : Int) ∈ list) = inn) && decide (decide ((1 : Int) ∈ list) = inn) && decide (decide ((4 : Int) ∈ list) = inn)) := by
  have wit : ∀ (h : List Int) (j : Nat), okU h = true → decide ((j : Int) ∈ list) ≠ inn → (∀ i x, i < 5 → i ≠ j → exBn[i]? = some x → okN h 0 x = true) → fitB 100 0 (havK exBn list inn 5) = true := by
    intro h j hU hj hok
    refine fit_wit h 0 _ hU (fun x hx => ?_)
    obtain ⟨i, hi, hxi, hd⟩ := havK_of _ _ _ _ _ hx
    refine hok i x hi (fun e => ?_) hxi
    subst e
    exact hj hd
  by_cases h0 : decide ((0 : Int) ∈ list) = inn
  · by_cases h1 : decide ((1 : Int) ∈ list) = inn
    · by_cases h4 : decide ((4 : Int) ∈ list) = inn
      · rw [fit_no 0 _ (by omega) (by omega) (havK_has _ _ _ 5 0 _ (by omega) rfl h0) (havK_has _ _ _ 5 1 _ (by omega) rfl h1) (havK_has _ _ _ 5 4 _ (by omega) rfl h4)]
        simp [h0, h1, h4]
      · rw [wit [1180, 900, 930, 900, 0, 0, 0, 0, 0] 4 (by decide +kernel) h4 (by
          intro i x hi hne hx
          match i, hi, hne with
          | 0, _, _ => simp [exBn, exNotes] at hx; subst hx; decide +kernel
          | 1, _, _ => simp [exBn, exNotes] at hx; subst hx; decide +kernel
          | 2, _, _ => simp [exBn, exNotes] at hx; subst hx; decide +kernel
          | 3, _, _ => simp [exBn, exNotes] at hx; subst hx; decide +kernel
          | 4, _, hne => exact absurd rfl hne)]
        simp [h0, h1, h4]
    · rw [wit [1180, 1180, 930, 1180, 0, 0, 0, 0, 0] 1 (by decide +kernel) h1 (by
        intro i x hi hne hx
        match i, hi, hne with
        | 0, _, _ => simp [exBn, exNotes] at hx; subst hx; decide +kernel
        | 1, _, hne => exact absurd rfl hne
        | 2, _, _ => simp [exBn, exNotes] at hx; subst hx; decide +kernel
        | 3, _, _ => simp [exBn, exNotes] at hx; subst hx; decide +kernel
        | 4, _, _ => simp [exBn, exNotes, exSteep] at hx; subst hx; decide +kernel)]
      simp [h0, h1]
  · rw [wit [900, 900, 650, 900, 0, 0, 0, 0, 0] 0 (by decide +kernel) h0 (by
      intro i x hi hne hx
      match i, hi, hne with
      | 0, _, hne => exact absurd rfl hne
      | 1, _, _ => simp [exBn, exNotes] at hx; subst hx; decide +kernel
      | 2, _, _ => simp [exBn, exNotes] at hx; subst hx; decide +kernel
      | 3, _, _ => simp [exBn, exNotes] at hx; subst hx; decide +kernel
      | 4, _, _ => simp [exBn, exNotes, exSteep] at hx; subst hx; decide +kernel)]
    simp [h0]

theorem fitBB : fitB 100 0 exBn = false := fit_no 0 _ (by omega) (by omega) (by decide) (by decide) (by decide)
theorem fitsBB : fitsS exB = false := by unfold fitsS; rw [if_pos errExB]; exact fitBB
theorem measEB : measE exB = 9 := by unfold measE; rw [if_pos errExB]; exact if_neg (by show ¬ fitB 100 0 exBn = true; rw [fitBB]; decide)
theorem proofGB : proofG exB = fun l => decide ((0 : Int) ∈ l) && decide ((1 : Int) ∈ l) && decide ((4 : Int) ∈ l) := by
  funext l
  show (!fitB 100 0 (havK exBn l true 5)) = _
  rw [exB_fit]
  simp
theorem wrongGB : wrongG exB = fun l => decide ((0 : Int) ∈ l) || decide ((1 : Int) ∈ l) || decide ((4 : Int) ∈ l) := by
  funext l
  show fitB 100 0 (havK exBn l false 5) = _
  rw [exB_fit]
  by_cases h0 : (0 : Int) ∈ l <;> by_cases h1 : (1 : Int) ∈ l <;> by_cases h4 : (4 : Int) ∈ l <;> simp [h0, h1, h4]
theorem proofLB : proofL exB = [0, 1, 4] := by
  unfold proofL
  rw [if_pos errExB, if_neg (by show ¬ fitB 100 0 exBn = true; rw [fitBB]; decide), proofGB]
  decide +kernel
theorem proofEB : proofE exB = 0 := by unfold proofE; rw [if_pos errExB, if_neg (by show ¬ fitB 100 0 exBn = true; rw [fitBB]; decide)]
theorem wrongLB : wrongL exB = [0] := by
  unfold wrongL
  rw [if_pos errExB, wrongGB]
  decide +kernel
theorem proofLS : proofL exS = [] := by unfold proofL; rw [if_pos errExS]; exact if_pos fitS
theorem proofES : proofE exS = 4 := by unfold proofE; rw [if_pos errExS]; exact if_pos fitS
theorem wrongLS : wrongL exS = [] := by
  unfold wrongL
  rw [if_pos errExS]
  have h : wrongG exS [] = true := by
    show fitB 100 0 (havK exNotes [] false 4) = true
    rw [show havK exNotes [] false 4 = exNotes by decide +kernel]
    exact fitS
  unfold fewS
  rw [h]
  rfl
theorem widB (r : Nat) (h : WidPost exB r) : r = 60 := by
  unfold WidPost at h
  rw [if_pos errExB] at h
  obtain ⟨h1, h2, h3⟩ := h
  have h60 : fitB 100 ((60 : Nat) : Int) exBn = true := fit_wit [1120, 1060, 930, 1060, 0, 0, 0, 0, 0] _ _ (by decide +kernel) (by
    intro x hx
    have hx : x ∈ exBn := hx
    simp only [exBn, exNotes, exSteep, List.cons_append, List.nil_append, List.mem_cons, List.not_mem_nil, or_false] at hx
    rcases hx with rfl | rfl | rfl | rfl | rfl <;> decide +kernel)
  rcases Nat.lt_trichotomy r 60 with hl | he | hl
  · have := h3 (by omega)
    have hno : fitB 100 (r : Int) exBn = false := fit_no r _ (by omega) (by omega) (by decide) (by decide) (by decide)
    have : fitB 100 (r : Int) exBn = true := this
    rw [hno] at this; cases this
  · exact he
  · have : fitB 100 ((60 : Nat) : Int) exBn = false := h2 60 hl
    rw [h60] at this; cases this
theorem widS (r : Nat) (h : WidPost exS r) : r = 0 := by
  unfold WidPost at h
  rw [if_pos errExS] at h
  obtain ⟨h1, h2, h3⟩ := h
  rcases Nat.eq_zero_or_pos r with he | hl
  · exact he
  · have : fitB 100 ((0 : Nat) : Int) exNotes = false := h2 0 hl
    rw [show ((0 : Nat) : Int) = 0 by rfl, fitS] at this; cases this

/-- The text of the example. -/
def exText : List UInt8 := [115, 104, 101, 101, 116, 32, 49, 48, 48, 10, 112, 111, 105, 110, 116, 32, 116, 111, 114, 10, 112, 111, 105, 110, 116, 32, 109, 101, 114, 101, 10, 112, 111, 105, 110, 116, 32, 102, 111, 114, 100, 10, 112, 111, 105, 110, 116, 32, 100, 97, 109, 10, 115, 112, 111, 116, 32, 116, 111, 114, 32, 49, 49, 56, 48, 32, 49, 50, 48, 48, 10, 99, 111, 110, 116, 111, 117, 114, 32, 109, 101, 114, 101, 32, 57, 32, 49, 48, 10, 108, 97, 107, 101, 32, 100, 97, 109, 32, 109, 101, 114, 101, 10, 115, 108, 111, 112, 101, 32, 116, 111, 114, 32, 102, 111, 114, 100, 32, 50, 53, 48, 32, 51, 48, 48, 10]
theorem ito (n : Int) (l : List UInt8) (h : Lib.itoa n = l) : Lib.itoa n = l := h
theorem it100 : Lib.itoa 100 = [49, 48, 48] := by simp [Lib.itoa, Lib.decDigits]
theorem it1180 : Lib.itoa 1180 = [49, 49, 56, 48] := by simp [Lib.itoa, Lib.decDigits]
theorem it1200 : Lib.itoa 1200 = [49, 50, 48, 48] := by simp [Lib.itoa, Lib.decDigits]
theorem it9 : Lib.itoa 9 = [57] := by simp [Lib.itoa, Lib.decDigits]
theorem it10 : Lib.itoa 10 = [49, 48] := by simp [Lib.itoa, Lib.decDigits]
theorem it250 : Lib.itoa 250 = [50, 53, 48] := by simp [Lib.itoa, Lib.decDigits]
theorem it300 : Lib.itoa 300 = [51, 48, 48] := by simp [Lib.itoa, Lib.decDigits]
theorem writeE : writeS exS = exText := by
  unfold writeS
  rw [if_pos errExS]
  show lineT [wSheet, Lib.itoa 100] ++ ptsT exPts ++ notesT exPts exNotes = exText
  unfold ptsT notesT
  simp only [exPts, exNotes, List.flatMap_cons, List.flatMap_nil, wordsB, reduceIte, Int.reduceEq, it100, it1180, it1200, it9, it10, it250, it300, List.map_cons, List.map_nil, bs_toList]
  decide +kernel
theorem readE : ReadsTo (bs exText) ⟨100, exPts, exNotes⟩ := by
  refine ⟨by decide +kernel, ?_, errExS, writeE⟩
  kernel_rfl
end Go.Proofs.YtacmaddjpaebfaaGreatDoor
