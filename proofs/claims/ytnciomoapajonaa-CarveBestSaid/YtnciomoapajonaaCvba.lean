/- Rows of boards as plain data: the best surface. No program is named here. -/
import Derived.Test.YtnciomoapajonaaCvd
set_option linter.unusedSimpArgs false
set_option linter.unusedVariables false
namespace Cv
/-- What a part of a surface needs: plaster and passes. -/
abbrev Nd := Int × Int
def addN (a b : Nd) : Nd := (a.1 + b.1, a.2 + b.2)
/-- Less, by what comes first, then by the other. -/
def ltN (q : Bool) (a b : Nd) : Bool :=
  if q then (if a.2 = b.2 then decide (a.1 < b.1) else decide (a.2 < b.2)) else (if a.1 = b.1 then decide (a.2 < b.2) else decide (a.1 < b.1))
theorem ltN_irr (q : Bool) (a : Nd) : ltN q a a = false := by unfold ltN; cases q <;> simp
theorem ltN_iff (q : Bool) (a b : Nd) : ltN q a b = true ↔ (if q then (a.2 < b.2 ∨ a.2 = b.2 ∧ a.1 < b.1) else (a.1 < b.1 ∨ a.1 = b.1 ∧ a.2 < b.2)) := by
  unfold ltN
  cases q
  · simp only [Bool.false_eq_true, if_false]
    split <;> simp <;> omega
  · simp only [if_true]
    split <;> simp <;> omega
theorem ltN_trans {q : Bool} {a b c : Nd} (h : ltN q a b = true) (g : ltN q b c = true) : ltN q a c = true := by
  rw [ltN_iff] at *
  cases q
  · simp only [Bool.false_eq_true, if_false] at *; omega
  · simp only [if_true] at *; omega
theorem ltN_le {q : Bool} {a b c : Nd} (h : ltN q b a = false) (g : ltN q c b = false) : ltN q c a = false := by
  rw [← Bool.not_eq_true, ltN_iff] at *
  cases q
  · simp only [Bool.false_eq_true, if_false] at *; omega
  · simp only [if_true] at *; omega
theorem ltN_lt_le {q : Bool} {a b c : Nd} (h : ltN q a b = true) (g : ltN q c b = false) : ltN q a c = true := by
  rw [← Bool.not_eq_true] at g
  rw [ltN_iff] at *
  cases q
  · simp only [Bool.false_eq_true, if_false] at *; omega
  · simp only [if_true] at *; omega
theorem ltN_asymm {q : Bool} {a b : Nd} (h : ltN q a b = true) : ltN q b a = false := by
  rw [← Bool.not_eq_true]
  rw [ltN_iff] at *
  cases q
  · simp only [Bool.false_eq_true, if_false] at *; omega
  · simp only [if_true] at *; omega
theorem ltN_eq {q : Bool} {a b : Nd} (h : ltN q a b = false) (g : ltN q b a = false) : a = b := by
  rw [← Bool.not_eq_true] at h g
  rw [ltN_iff] at *
  obtain ⟨a1, a2⟩ := a
  obtain ⟨b1, b2⟩ := b
  cases q
  · simp only [Bool.false_eq_true, if_false] at *; simp only [Prod.mk.injEq]; omega
  · simp only [if_true] at *; simp only [Prod.mk.injEq]; omega
theorem ltN_add (q : Bool) (a b c : Nd) : ltN q (addN c a) (addN c b) = ltN q a b := by
  apply Bool.eq_iff_iff.2
  rw [ltN_iff, ltN_iff]
  unfold addN
  cases q
  · simp only [Bool.false_eq_true, if_false]; omega
  · simp only [if_true]; omega

/-! ## The numbers of a span; what a step and a surface need -/
def spanL (lo hi : Int) : List Int := (List.range (hi - lo + 1).toNat).map fun (k : Nat) => lo + (k : Int)
theorem mem_spanL {lo hi x : Int} : x ∈ spanL lo hi ↔ lo ≤ x ∧ x ≤ hi := by
  unfold spanL
  rw [List.mem_map]
  constructor
  · rintro ⟨k, hk, rfl⟩
    have := List.mem_range.1 hk
    omega
  · rintro ⟨h1, h2⟩
    exact ⟨(x - lo).toNat, List.mem_range.2 (by omega), by omega⟩
/-- Where a surface comes from: nowhere, or a height at a point. -/
abbrev From := Option (Pt × Int)
def deepF : From → Int
  | none => 0
  | some (p, h) => max 0 (p.bd - h)
def nearF (st : Int) : From → Int → Bool
  | none, _ => true
  | some (_, g), h => decide (g - st ≤ h) && decide (h ≤ g + st)
def stepN (f : From) (p : Pt) (h : Int) : Nd := (max 0 (h - p.bd), max 0 (max 0 (p.bd - h) - deepF f))
def needS : From → List Pt → List Int → Nd
  | f, p :: l, h :: s => addN (stepN f p h) (needS (some (p, h)) l s)
  | _, _, _ => (0, 0)
def GoodL (st : Int) : From → List Pt → List Int → Prop
  | _, [], [] => True
  | f, p :: l, h :: s => p.lo ≤ h ∧ h ≤ p.hi ∧ nearF st f h = true ∧ GoodL st (some (p, h)) l s
  | _, _, _ => False
theorem GoodL.length {st : Int} : ∀ {l : List Pt} {s : List Int} {f : From}, GoodL st f l s → s.length = l.length := by
  intro l
  induction l with
  | nil => intro s f h; cases s with | nil => rfl | cons _ _ => exact h.elim
  | cons p l ih =>
    intro s f h
    cases s with
    | nil => exact h.elim
    | cons x s => have := ih h.2.2.2; simp [this]

/-! ## The best of what is left, as the reference finds it -/
abbrev Rst := Option (List Int × Nd)
def betO (q : Bool) (a : Rst) (b : List Int × Nd) : Rst :=
  match a with
  | none => some b
  | some c => if ltN q b.2 c.2 then some b else some c
/-- What a height leads to. -/
def candO (st : Int) (f : From) (p : Pt) (h : Int) (r : Rst) : Rst :=
  if nearF st f h then r.map fun x => (h :: x.1, addN (stepN f p h) x.2) else none
def refL (st : Int) (q : Bool) : List Pt → From → Rst
  | [], _ => some ([], (0, 0))
  | p :: l, f => (spanL p.lo p.hi).foldl (fun a h => match candO st f p h (refL st q l (some (p, h))) with | none => a | some b => betO q a b) none
/-- One fold over whatever comes. -/
def foldO (q : Bool) (g : Int → Rst) : List Int → Rst → Rst
  | [], a => a
  | h :: l, a => foldO q g l (match g h with | none => a | some b => betO q a b)
theorem foldl_foldO (q : Bool) (g : Int → Rst) : ∀ (l : List Int) (a : Rst), l.foldl (fun a h => match g h with | none => a | some b => betO q a b) a = foldO q g l a := by
  intro l
  induction l with
  | nil => intro a; rfl
  | cons h l ih => intro a; exact ih _
theorem refL_cons (st : Int) (q : Bool) (p : Pt) (l : List Pt) (f : From) : refL st q (p :: l) f = foldO q (fun h => candO st f p h (refL st q l (some (p, h)))) (spanL p.lo p.hi) none :=
  foldl_foldO q (fun h => candO st f p h (refL st q l (some (p, h)))) (spanL p.lo p.hi) none
/-- What a fold yields: one of what came, and nothing that came is less. -/
theorem foldO_some (q : Bool) (g : Int → Rst) : ∀ (l : List Int) (a : Rst) (x : List Int × Nd), foldO q g l a = some x →
    (a = some x ∨ ∃ h, h ∈ l ∧ g h = some x) ∧ (∀ b, a = some b → ltN q b.2 x.2 = false) ∧ (∀ h b, h ∈ l → g h = some b → ltN q b.2 x.2 = false) := by
  intro l
  induction l with
  | nil =>
    intro a x h
    subst h
    exact ⟨.inl rfl, fun b hb => (by cases hb; exact ltN_irr q _), fun h b hh => (by simp at hh)⟩
  | cons h l ih =>
    intro a x hx
    unfold foldO at hx
    obtain ⟨h1, h2, h3⟩ := ih _ x hx
    cases hg : g h with
    | none =>
      simp only [hg] at h1 h2
      refine ⟨?_, h2, fun h' b hh hb => ?_⟩
      · rcases h1 with h1 | ⟨h', m, e⟩
        · exact .inl h1
        · exact .inr ⟨h', List.mem_cons_of_mem _ m, e⟩
      · rcases List.mem_cons.1 hh with e | m
        · subst e; rw [hg] at hb; cases hb
        · exact h3 h' b m hb
    | some c =>
      simp only [hg] at h1 h2
      cases a with
      | none =>
        simp only [betO] at h1 h2
        refine ⟨?_, fun b hb => (by cases hb), fun h' b hh hb => ?_⟩
        · rcases h1 with h1 | ⟨h', m, e⟩
          · exact .inr ⟨h, by simp, by rw [hg, h1]⟩
          · exact .inr ⟨h', List.mem_cons_of_mem _ m, e⟩
        · rcases List.mem_cons.1 hh with e | m
          · subst e; rw [hg] at hb; cases hb; exact h2 c rfl
          · exact h3 h' b m hb
      | some d =>
        simp only [betO] at h1 h2
        by_cases hl : ltN q c.2 d.2 = true
        · rw [if_pos hl] at h1 h2
          have hc := h2 c rfl
          refine ⟨?_, fun b hb => ?_, fun h' b hh hb => ?_⟩
          · rcases h1 with h1 | ⟨h', m, e⟩
            · exact .inr ⟨h, by simp, by rw [hg, h1]⟩
            · exact .inr ⟨h', List.mem_cons_of_mem _ m, e⟩
          · cases hb
            exact ltN_le hc (ltN_asymm hl)
          · rcases List.mem_cons.1 hh with e | m
            · subst e; rw [hg] at hb; cases hb; exact hc
            · exact h3 h' b m hb
        · have hl' : ltN q c.2 d.2 = false := by simpa using hl
          rw [if_neg hl] at h1 h2
          have hd := h2 d rfl
          refine ⟨?_, fun b hb => (by cases hb; exact hd), fun h' b hh hb => ?_⟩
          · rcases h1 with h1 | ⟨h', m, e⟩
            · exact .inl h1
            · exact .inr ⟨h', List.mem_cons_of_mem _ m, e⟩
          · rcases List.mem_cons.1 hh with e | m
            · subst e; rw [hg] at hb; cases hb; exact ltN_le hd hl'
            · exact h3 h' b m hb
theorem foldO_none (q : Bool) (g : Int → Rst) : ∀ (l : List Int) (a : Rst), foldO q g l a = none ↔ a = none ∧ ∀ h, h ∈ l → g h = none := by
  intro l
  induction l with
  | nil => intro a; simp [foldO]
  | cons h l ih =>
    intro a
    unfold foldO
    rw [ih]
    cases hg : g h with
    | none => simp [hg]
    | some c =>
      simp only [List.mem_cons]
      constructor
      · rintro ⟨h1, _⟩
        cases a with
        | none => cases h1
        | some d => simp only [betO] at h1; split at h1 <;> cases h1
      · rintro ⟨_, h2⟩
        have := h2 h (.inl rfl)
        rw [hg] at this
        cases this
/-- Nothing is found just where no surface is good. -/
theorem refL_none (st : Int) (q : Bool) : ∀ (l : List Pt) (f : From), refL st q l f = none ↔ ∀ s, ¬ GoodL st f l s := by
  intro l
  induction l with
  | nil =>
    intro f
    simp only [refL]
    constructor
    · intro h; cases h
    · intro h; exact absurd (show GoodL st f [] [] from trivial) (h [])
  | cons p l ih =>
    intro f
    rw [refL_cons, foldO_none]
    constructor
    · rintro ⟨_, h⟩ s hs
      cases s with
      | nil => exact hs
      | cons x s =>
        obtain ⟨h1, h2, h3, h4⟩ := hs
        have := h x (mem_spanL.2 ⟨h1, h2⟩)
        unfold candO at this
        rw [if_pos h3, Option.map_eq_none_iff, ih] at this
        exact this s h4
    · intro h
      refine ⟨rfl, fun x hx => ?_⟩
      have hx' := mem_spanL.1 hx
      unfold candO
      split
      · rename_i hn
        rw [Option.map_eq_none_iff, ih]
        intro s hs
        exact h (x :: s) ⟨hx'.1, hx'.2, hn, hs⟩
      · rfl
/-- What is found is a good surface, with what it needs, and none needs less. -/
theorem refL_some (st : Int) (q : Bool) : ∀ (l : List Pt) (f : From) (x : List Int × Nd), refL st q l f = some x →
    GoodL st f l x.1 ∧ x.2 = needS f l x.1 ∧ ∀ s, GoodL st f l s → ltN q (needS f l s) x.2 = false := by
  intro l
  induction l with
  | nil =>
    intro f x h
    simp only [refL, Option.some.injEq] at h
    subst h
    refine ⟨trivial, by simp [needS], fun s hs => ?_⟩
    cases s with
    | nil => simp only [needS]; exact ltN_irr q _
    | cons _ _ => exact hs.elim
  | cons p l ih =>
    intro f x h
    rw [refL_cons] at h
    obtain ⟨h1, _, h3⟩ := foldO_some q _ _ _ x h
    rcases h1 with h1 | ⟨y, hy, e⟩
    · cases h1
    have hy' := mem_spanL.1 hy
    unfold candO at e
    split at e
    · rename_i hn
      obtain ⟨z, hz, rfl⟩ := Option.map_eq_some_iff.1 e
      obtain ⟨g1, g2, g3⟩ := ih _ z hz
      refine ⟨⟨hy'.1, hy'.2, hn, g1⟩, by simp only [needS, g2], fun s hs => ?_⟩
      cases s with
      | nil => exact hs.elim
      | cons u s =>
        obtain ⟨k1, k2, k3, k4⟩ := hs
        cases hr : refL st q l (some (p, u)) with
        | none => exact absurd k4 ((refL_none st q l _).1 hr s)
        | some b =>
          have := h3 u (u :: b.1, addN (stepN f p u) b.2) (mem_spanL.2 ⟨k1, k2⟩) (by unfold candO; rw [if_pos k3, hr]; rfl)
          refine ltN_le this ?_
          simp only [needS]
          rw [ltN_add]
          exact (ih _ b hr).2.2 s k4
    · cases e
end Cv
