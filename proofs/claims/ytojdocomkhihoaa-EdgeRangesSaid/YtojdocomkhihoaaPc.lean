/- Pushes along edges, as plain data: the search for a proof ends. No program is named here. -/
import Derived.Test.YtojdocomkhihoaaPb
import Derived.Test.YtojdocomkhihoaaFi1
set_option linter.unusedSimpArgs false
set_option linter.unusedVariables false
namespace Go.Proofs.Ytojdocomkhihoaa
open Go Go.RowKit Ed

/-! ## Pushes -/
/-- The first one that is told, of so many from one on. -/
def firstSm {β : Type} (f : Nat → Option β) : Nat → Nat → Option β
  | _, 0 => none
  | k, g + 1 => match f k with
    | some x => some x
    | none => firstSm f (k + 1) g
theorem firstSm_none {β : Type} (f : Nat → Option β) : ∀ g k, firstSm f k g = none ↔ ∀ j, k ≤ j → j < k + g → f j = none := by
  intro g
  induction g with
  | zero => intro k; simp only [firstSm, true_iff]; intro j h1 h2; omega
  | succ g ih =>
    intro k
    simp only [firstSm]
    cases h : f k with
    | some x =>
      simp only [reduceCtorEq, false_iff]
      intro hall
      have := hall k (Nat.le_refl _) (by omega)
      rw [h] at this
      cases this
    | none =>
      simp only [ih]
      constructor
      · intro hj j h1 h2
        by_cases e : j = k
        · subst e; exact h
        · exact hj j (by omega) (by omega)
      · intro hj j h1 h2
        exact hj j (by omega) (by omega)
theorem firstSm_at {β : Type} (f : Nat → Option β) (n k : Nat) (x : β) (hk : k < n) (h : ∀ j, j < k → f j = none) (hx : f k = some x) : firstSm f 0 n = some x := by
  have key : ∀ g i, i + g = n → i ≤ k → firstSm f i g = some x := by
    intro g
    induction g with
    | zero => intro i h1 h2; omega
    | succ g ih =>
      intro i h1 h2
      simp only [firstSm]
      by_cases e : i = k
      · subst e; rw [hx]
      · rw [h i (by omega)]
        exact ih (i + 1) (by omega) (by omega)
  exact key n 0 (by omega) (by omega)
theorem firstSm_of {β : Type} (f : Nat → Option β) : ∀ (g k : Nat) (x : β), firstSm f k g = some x → ∃ j, k ≤ j ∧ j < k + g ∧ f j = some x := by
  intro g
  induction g with
  | zero => intro k x h; simp [firstSm] at h
  | succ g ih =>
    intro k x h
    simp only [firstSm] at h
    cases hf : f k with
    | some y =>
      rw [hf] at h
      simp only [Option.some.injEq] at h
      subst h
      exact ⟨k, Nat.le_refl _, by omega, hf⟩
    | none =>
      rw [hf] at h
      obtain ⟨j, h1, h2, h3⟩ := ih (k + 1) x h
      exact ⟨j, by omega, by omega, h3⟩
/-- What a push from a sheet on finds. -/
def pushM (c : Cas) (ws : List Int) (before : Int) : Nat → Nat → List Int → List Bool → Option (List Int)
  | 0, _, _, _ => none
  | f + 1, a, p, b => if before < bndC c ws p then some p else if b.getD a false = true then none else
      firstSm (fun i => if (acrS (c.eds.getD i default) a).2 = 0 then none else pushM c ws before f (acrS (c.eds.getD i default) a).1.toNat (p.set i (p.getD i 0 + (acrS (c.eds.getD i default) a).2)) (b.set a true)) 0 c.eds.length
def no5 : List Bool := [false, false, false, false, false]
def z8 : List Int := [0, 0, 0, 0, 0, 0, 0, 0]
def pushedM (c : Cas) (ws p : List Int) : Option (List Int) := firstSm (fun s => pushM c ws (bndC c ws p) 6 s p no5) 0 c.shs.length
def proofGo (c : Cas) (ws : List Int) : Nat → List Int → Option (List Int)
  | 0, _ => none
  | g + 1, p => if bndC c ws p ≤ dearC c then (match pushedM c ws p with
      | none => some p
      | some q => proofGo c ws g q) else some p
/-- Numbers without their sign at most so great. -/
def PuB (K : Int) (p : List Int) : Prop := ∀ i, -K ≤ p.getD i 0 ∧ p.getD i 0 ≤ K
theorem acrS_one (d : Edg) (x : Int) : (acrS d x).2 = 0 ∨ (acrS d x).2 = 1 ∨ (acrS d x).2 = -1 := by
  unfold acrS
  split
  · right; left; rfl
  · split
    · right; right; rfl
    · left; rfl
theorem PuB.set {K : Int} {p : List Int} (h : PuB K p) (hK : 0 ≤ K) (i : Nat) (d : Edg) (x : Int) : PuB (K + 1) (p.set i (p.getD i 0 + (acrS d x).2)) := by
  intro j
  have h1 := h j
  have h2 := h i
  have h3 := acrS_one d x
  rw [getD_set]
  split <;> omega
theorem pushM_some (c : Cas) (ws : List Int) (before : Int) : ∀ (f a : Nat) (p : List Int) (b : List Bool) (q : List Int) (K : Int), 0 ≤ K → PuB K p → pushM c ws before f a p b = some q → before < bndC c ws q ∧ q.length = p.length ∧ PuB (K + f) q := by
  intro f
  induction f with
  | zero => intro a p b q K _ _ h; simp [pushM] at h
  | succ f ih =>
    intro a p b q K hK hp h
    simp only [pushM] at h
    split at h
    · rename_i h1
      simp only [Option.some.injEq] at h
      subst h
      exact ⟨h1, rfl, fun i => by have := hp i; push_cast; omega⟩
    · split at h
      · cases h
      · obtain ⟨j, _, _, hj⟩ := firstSm_of _ _ _ _ h
        split at hj
        · cases hj
        · obtain ⟨h1, h2, h3⟩ := ih _ _ _ _ (K + 1) (by omega) (hp.set hK j _ _) hj
          refine ⟨h1, by rw [h2, List.length_set], fun i => ?_⟩
          have := h3 i
          push_cast
          omega
theorem pushedM_some (c : Cas) (ws p q : List Int) (K : Int) (hK : 0 ≤ K) (hp : PuB K p) (h : pushedM c ws p = some q) : bndC c ws p < bndC c ws q ∧ q.length = p.length ∧ PuB (K + 6) q := by
  obtain ⟨j, _, _, hj⟩ := firstSm_of _ _ _ _ h
  exact pushM_some c ws _ 6 j p no5 q K hK hp hj
theorem z8_get (i : Nat) : z8.getD i 0 = 0 := by
  match i with
  | 0 => rfl
  | 1 => rfl
  | 2 => rfl
  | 3 => rfl
  | 4 => rfl
  | 5 => rfl
  | 6 => rfl
  | 7 => rfl
  | i + 8 => rfl
theorem bnd_z8 (c : Cas) (hv : Valid c) (ws : List Int) : bndC c ws z8 = 0 := by
  have e1 : ∀ k, bndE ws z8 k = 0 := by
    intro k
    induction k with
    | zero => rfl
    | succ k ih => simp only [bndE, ih, z8_get]; simp
  have e2 : ∀ k i, (givTo c.eds z8 k).getD i 0 = 0 := by
    intro k
    induction k with
    | zero => intro i; exact z5_get i
    | succ k ih =>
      intro i
      simp only [givTo, givStep, getD_set, z8_get, ih]
      split <;> simp
  have e3 : ∀ k, k ≤ c.shs.length → bndS c.shs (givTo c.eds z8 c.eds.length) 0 k = 0 := by
    intro k
    induction k with
    | zero => intro _; rfl
    | succ k ih =>
      intro hk
      have h := (hv.sh _ (List.getElem_mem (show k < c.shs.length by omega))).w0
      simp only [bndS, ih (by omega), e2, getD_lt _ _ (show k < c.shs.length by omega)]
      have : max 0 (absI 0 - c.shs[k].wt) = 0 := by unfold absI; omega
      rw [this]
      simp
  unfold bndC
  rw [e1, e3 _ (Nat.le_refl _)]
/-- The search for a proof ends. -/
theorem proof_ends (c : Cas) (ws : List Int) : ∀ (g : Nat) (p : List Int) (K : Int), 0 ≤ K → PuB K p → p.length = 8 → (dearC c + 1 - bndC c ws p).toNat < g → ∃ q, proofGo c ws g p = some q := by
  intro g
  induction g with
  | zero => intro p K _ _ _ h; omega
  | succ g ih =>
    intro p K hK hp hl h
    simp only [proofGo]
    split
    · cases hm : pushedM c ws p with
      | none => exact ⟨p, rfl⟩
      | some q =>
        obtain ⟨h1, h2, h3⟩ := pushedM_some c ws p q K hK hp hm
        exact ih q (K + 6) (by omega) h3 (by omega) (by omega)
    · exact ⟨p, rfl⟩
end Go.Proofs.Ytojdocomkhihoaa
