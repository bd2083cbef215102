/- What the rounds of tight come to: plain mathematics over the matrices of package sheet. -/
import Derived.Test.YtacmaddjpaebfaaGreatDoorTight
import Derived.Test.YtacmaddjpaebfaaGreatDoorDc
set_option linter.unusedSimpArgs false
set_option linter.unusedVariables false
namespace Go.Proofs.YtacmaddjpaebfaaGreatDoor
open Dc

def ent (m : List Int) (a b : Nat) : Int := m[a * 9 + b]?.getD 0

theorem ent_set (q : List Int) (hq : q.length = 81) (a b i j : Nat) (x : Int) (ha : a < 9) (hb : b < 9) (hi : i < 9) (hj : j < 9) :
    ent (q.set (a * 9 + b) x) i j = if i = a ∧ j = b then x else ent q i j := by
  unfold ent
  rw [List.getElem?_set]
  by_cases h : i = a ∧ j = b
  · obtain ⟨rfl, rfl⟩ := h
    rw [if_pos rfl, if_pos (by omega), if_pos ⟨rfl, rfl⟩]
    rfl
  · rw [if_neg (by omega), if_neg h]

theorem ent_chStep (m q : List Int) (hq : q.length = 81) (a v b i j : Nat) (ha : a < 9) (hb : b < 9) (hi : i < 9) (hj : j < 9) :
    ent (chStep m q a v b) i j = if i = a ∧ j = b then min (ent q a b) (ent m a v + ent m v b) else ent q i j := by
  unfold chStep
  rw [ent_set q hq a b i j _ ha hb hi hj]
  by_cases h : i = a ∧ j = b
  · rw [if_pos h, if_pos h]
    unfold ent
    split <;> omega
  · rw [if_neg h, if_neg h]

theorem chM_facts (m : List Int) (hm : m.length = 81) (p : Nat) (hp : p ≤ 729) :
    (∀ i j, i < 9 → j < 9 → ent (chM m p) i j ≤ ent m i j) ∧
    (∀ a v b, a < 9 → v < 9 → b < 9 → 81 * a + 9 * v + b < p → ent (chM m p) a b ≤ ent m a v + ent m v b) ∧
    (∀ i j, i < 9 → j < 9 → ent (chM m p) i j = ent m i j ∨ ∃ v, v < 9 ∧ ent (chM m p) i j = ent m i v + ent m v j) := by
  induction p with
  | zero => exact ⟨fun _ _ _ _ => Int.le_refl _, fun _ _ _ _ _ _ h => by omega, fun _ _ _ _ => .inl rfl⟩
  | succ p ih =>
    obtain ⟨h1, h2, h3⟩ := ih (by omega)
    have hq : (chM m p).length = 81 := (chM_length m p).trans hm
    have ha : p / 81 < 9 := by omega
    have hv : p / 9 % 9 < 9 := by omega
    have hb : p % 9 < 9 := by omega
    have key := fun i j (hi : i < 9) (hj : j < 9) => ent_chStep m (chM m p) hq (p / 81) (p / 9 % 9) (p % 9) i j ha hb hi hj
    show (∀ i j, i < 9 → j < 9 → ent (chStep m (chM m p) (p / 81) (p / 9 % 9) (p % 9)) i j ≤ ent m i j) ∧ (∀ a v b, a < 9 → v < 9 → b < 9 → 81 * a + 9 * v + b < p + 1 → ent (chStep m (chM m p) (p / 81) (p / 9 % 9) (p % 9)) a b ≤ ent m a v + ent m v b) ∧
      (∀ i j, i < 9 → j < 9 → ent (chStep m (chM m p) (p / 81) (p / 9 % 9) (p % 9)) i j = ent m i j ∨ ∃ v, v < 9 ∧ ent (chStep m (chM m p) (p / 81) (p / 9 % 9) (p % 9)) i j = ent m i v + ent m v j)
    refine ⟨fun i j hi hj => ?_, fun a v b ha' hv' hb' hlt => ?_, fun i j hi hj => ?_⟩
    · rw [key i j hi hj]
      split
      · rename_i e; rw [e.1, e.2]; exact Int.le_trans (Int.min_le_left _ _) (h1 _ _ ha hb)
      · exact h1 i j hi hj
    · rw [key a b ha' hb']
      by_cases e : 81 * a + 9 * v + b = p
      · have e1 : a = p / 81 := by omega
        have e2 : v = p / 9 % 9 := by omega
        have e3 : b = p % 9 := by omega
        rw [if_pos ⟨e1, e3⟩, e1, e2, e3]
        exact Int.min_le_right _ _
      · split
        · rename_i e'
          have := h2 a v b ha' hv' hb' (by omega)
          rw [e'.1, e'.2] at this ⊢
          omega
        · exact h2 a v b ha' hv' hb' (by omega)
    · rw [key i j hi hj]
      split
      · rename_i e
        by_cases hc : ent (chM m p) (p / 81) (p % 9) ≤ ent m (p / 81) (p / 9 % 9) + ent m (p / 9 % 9) (p % 9)
        · rw [Int.min_eq_left hc, e.1, e.2]
          exact h3 _ _ ha hb
        · rw [Int.min_eq_right (by omega), e.1, e.2]
          exact .inr ⟨_, hv, rfl⟩
      · exact h3 i j hi hj

theorem chained_le (m : List Int) (hm : m.length = 81) {i j : Nat} (hi : i < 9) (hj : j < 9) : ent (chained m) i j ≤ ent m i j := (chM_facts m hm 729 (Nat.le_refl _)).1 i j hi hj
theorem chained_via (m : List Int) (hm : m.length = 81) {i v j : Nat} (hi : i < 9) (hv : v < 9) (hj : j < 9) : ent (chained m) i j ≤ ent m i v + ent m v j := (chM_facts m hm 729 (Nat.le_refl _)).2.1 i v j hi hv hj (by omega)
theorem chained_is (m : List Int) (hm : m.length = 81) {i j : Nat} (hi : i < 9) (hj : j < 9) : ent (chained m) i j = ent m i j ∨ ∃ v, v < 9 ∧ ent (chained m) i j = ent m i v + ent m v j := (chM_facts m hm 729 (Nat.le_refl _)).2.2 i j hi hj
theorem chained_keeps (m : List Int) (hm : m.length = 81) : Keeps 9 (ent m) (ent (chained m)) := by
  refine ⟨fun a b ha hb => chained_le m hm ha hb, fun h hs a b ha hb => ?_⟩
  rcases chained_is m hm ha hb with e | ⟨v, hv, e⟩
  · rw [e]; exact hs a b ha hb
  · rw [e]
    have := hs a v ha hv
    have := hs v b hv hb
    omega

theorem negDiag_iff (m : List Int) : negDiag m 9 = true ↔ ∃ a, a < 9 ∧ ent m a a < 0 := by
  unfold negDiag ent
  rw [List.any_eq_true]
  constructor
  · rintro ⟨a, ha, h⟩
    exact ⟨a, by simpa using ha, by simpa [Nat.mul_comm] using h⟩
  · rintro ⟨a, ha, h⟩
    exact ⟨a, by simpa using ha, by simpa [Nat.mul_comm] using h⟩

theorem sum_lt : ∀ (p q : List Int), p.length = q.length → (∀ i, i < p.length → q[i]?.getD 0 ≤ p[i]?.getD 0) → q ≠ p → q.sum < p.sum ∧ q.sum ≤ p.sum
  | [], [], _, _, h => absurd rfl h
  | [], _ :: _, h, _, _ => by simp at h
  | _ :: _, [], h, _, _ => by simp at h
  | x :: p, y :: q, hl, hle, hne => by
    have h0 : y ≤ x := by simpa using hle 0 (by simp)
    have hr : ∀ i, i < p.length → q[i]?.getD 0 ≤ p[i]?.getD 0 := fun i hi => by simpa using hle (i + 1) (by simpa using hi)
    simp only [List.sum_cons]
    by_cases e : q = p
    · subst e
      have : y ≠ x := fun e => hne (by rw [e])
      omega
    · have := sum_lt p q (by simpa using hl) hr e
      omega
theorem sum_ge (B : Int) : ∀ (p : List Int), (∀ i, i < p.length → B ≤ p[i]?.getD 0) → B * p.length ≤ p.sum
  | [], _ => by simp
  | x :: p, h => by
    have h0 : B ≤ x := by simpa using h 0 (by simp)
    have := sum_ge B p (fun i hi => by simpa using h (i + 1) (by simpa using hi))
    simp only [List.sum_cons, List.length_cons]
    have e : B * ((p.length + 1 : Nat) : Int) = B * p.length + B := by rw [Int.natCast_add, Int.mul_add]; simp
    omega
theorem sum_le (B : Int) : ∀ (p : List Int), (∀ i, i < p.length → p[i]?.getD 0 ≤ B) → p.sum ≤ B * p.length
  | [], _ => by simp
  | x :: p, h => by
    have h0 : x ≤ B := by simpa using h 0 (by simp)
    have := sum_le B p (fun i hi => by simpa using h (i + 1) (by simpa using hi))
    simp only [List.sum_cons, List.length_cons]
    have e : B * ((p.length + 1 : Nat) : Int) = B * p.length + B := by rw [Int.natCast_add, Int.mul_add]; simp
    omega

/-- A matrix to begin with. -/
structure Start (m : List Int) : Prop where
  len : m.length = 81
  lo : ∀ a b, a < 9 → b < 9 → -20000 ≤ ent m a b
  hi : ∀ a b, a < 9 → b < 9 → ent m a b ≤ 20000
  diag : ∀ a, a < 9 → ent m a a ≤ 0

theorem ent_of (m : List Int) (P : Int → Prop) (hm : m.length = 81) (h : ∀ a b, a < 9 → b < 9 → P (ent m a b)) (i : Nat) (hi : i < 81) : P (m[i]?.getD 0) := by
  have := h (i / 9) (i % 9) (by omega) (by omega)
  unfold ent at this
  rwa [show i / 9 * 9 + i % 9 = i by omega] at this

section
variable (m : List Int) (hs : Start m)
include hs
theorem it_len (k : Nat) : (itM m k).length = 81 := (itM_length m k).trans hs.len
theorem it_keeps (k : Nat) : Keeps 9 (ent m) (ent (itM m k)) := by
  induction k with
  | zero => exact Keeps.refl _ _
  | succ k ih => exact ih.trans (chained_keeps _ (it_len m hs k))
theorem it_hi (k : Nat) {a b : Nat} (ha : a < 9) (hb : b < 9) : ent (itM m k) a b ≤ 20000 := Int.le_trans ((it_keeps m hs k).le a b ha hb) (hs.hi a b ha hb)
theorem it_diag (k : Nat) {a : Nat} (ha : a < 9) : ent (itM m k) a a ≤ 0 := Int.le_trans ((it_keeps m hs k).le a a ha ha) (hs.diag a ha)
/-- Where the next round has no number below 0 on the diagonal, this one is not far below 0. -/
theorem it_lo (k : Nat) (h : negDiag (itM m (k + 1)) 9 = false) {a b : Nat} (ha : a < 9) (hb : b < 9) : -20000 ≤ ent (itM m k) a b := by
  have h1 : ent (itM m (k + 1)) a a ≤ ent (itM m k) a b + ent (itM m k) b a := chained_via _ (it_len m hs k) ha hb ha
  have h2 := it_hi m hs k hb ha
  have h3 : ¬ ent (itM m (k + 1)) a a < 0 := fun h' => by
    have := (negDiag_iff _).2 ⟨a, ha, h'⟩
    rw [h] at this; cases this
  omega

/-- tight stops. -/
theorem stops : ∃ N, (∀ k, k < N → negDiag (itM m (k + 1)) 9 = false ∧ itM m (k + 1) ≠ itM m k) ∧ (negDiag (itM m (N + 1)) 9 = true ∨ itM m (N + 1) = itM m N) := by
  have hex : ∃ N, negDiag (itM m (N + 1)) 9 = true ∨ itM m (N + 1) = itM m N := by
    refine Classical.byContradiction fun hno => ?_
    have hall : ∀ k, negDiag (itM m (k + 1)) 9 = false ∧ itM m (k + 1) ≠ itM m k := fun k => by
      constructor
      · cases hn : negDiag (itM m (k + 1)) 9
        · rfl
        · exact absurd ⟨k, .inl hn⟩ hno
      · intro e; exact hno ⟨k, .inr e⟩
    have hsum : ∀ k : Nat, (itM m k).sum ≤ 20000 * 81 - k := fun k => by
      induction k with
      | zero =>
        have := sum_le 20000 m (fun i hi => ent_of m (fun x => x ≤ 20000) hs.len hs.hi i (by rw [← hs.len]; exact hi))
        rw [hs.len] at this
        simpa [itM] using this
      | succ k ih =>
        have hl := it_len m hs k
        have := sum_lt (itM m k) (itM m (k + 1)) (by rw [hl, it_len m hs (k + 1)]) (fun i hi => by
          have hi' : i < 81 := by rw [hl] at hi; exact hi
          have := chained_le (itM m k) hl (i := i / 9) (j := i % 9) (by omega) (by omega)
          unfold ent at this
          rw [show i / 9 * 9 + i % 9 = i by omega] at this
          exact this) (hall k).2
        omega
    have h1 := hsum 4000000
    have h2 := sum_ge (-20000) (itM m 4000000) (fun i hi => ent_of _ (fun x => -20000 ≤ x) (it_len m hs _) (fun a b ha hb => it_lo m hs _ (hall 4000000).1 ha hb) i (by rw [it_len m hs] at hi; exact hi))
    rw [it_len m hs] at h2
    generalize (itM m 4000000).sum = s at h1 h2
    omega
  obtain ⟨N, hN, hmin⟩ := Go.exists_least hex
  refine ⟨N, fun k hk => ?_, hN⟩
  have hk' : ¬ (negDiag (itM m (k + 1)) 9 = true ∨ itM m (k + 1) = itM m k) := fun h => by have := hmin k h; omega
  constructor
  · cases hn : negDiag (itM m (k + 1)) 9
    · rfl
    · exact absurd (.inl hn) hk'
  · intro e; exact hk' (.inr e)

theorem it_bd (N : Nat) (hgo : ∀ k, k < N → negDiag (itM m (k + 1)) 9 = false ∧ itM m (k + 1) ≠ itM m k) (k : Nat) (hk : k ≤ N) : Bd (itM m k) := by
  have hlo : ∀ a b, a < 9 → b < 9 → -40000 ≤ ent (itM m k) a b := fun a b ha hb => by
    cases k with
    | zero => have := hs.lo a b ha hb; show -40000 ≤ ent m a b; omega
    | succ k =>
      have hn := (hgo k (by omega)).1
      rcases chained_is (itM m k) (it_len m hs k) ha hb with e | ⟨v, hv, e⟩
      · have := it_lo m hs k hn ha hb
        show -40000 ≤ ent (chained (itM m k)) a b
        omega
      · have := it_lo m hs k hn ha hv
        have := it_lo m hs k hn hv hb
        show -40000 ≤ ent (chained (itM m k)) a b
        omega
  intro i
  rcases Nat.lt_or_ge i 81 with hi | hi
  · have h1 := ent_of _ (fun x => -40000 ≤ x) (it_len m hs k) hlo i hi
    have h2 := ent_of _ (fun x => x ≤ 20000) (it_len m hs k) (fun a b ha hb => it_hi m hs k ha hb) i hi
    omega
  · rw [List.getElem?_eq_none (by rw [it_len m hs k]; exact hi)]
    show -1000000 ≤ (0 : Int) ∧ (0 : Int) ≤ 1000000
    omega

/-- What tight hands back: no heights keep to m, or a closed matrix with the same solutions. -/
theorem tight_means (N : Nat) (hgo : ∀ k, k < N → negDiag (itM m (k + 1)) 9 = false ∧ itM m (k + 1) ≠ itM m k) (hend : negDiag (itM m (N + 1)) 9 = true ∨ itM m (N + 1) = itM m N) :
    (negDiag (itM m (N + 1)) 9 = true → ∀ h, ¬ Sol 9 (ent m) h) ∧
    (negDiag (itM m (N + 1)) 9 = false → Closed 9 (ent (itM m N)) ∧ ∀ h, Sol 9 (ent m) h ↔ Sol 9 (ent (itM m N)) h) := by
  constructor
  · intro hn h hS
    obtain ⟨a, ha, hneg⟩ := (negDiag_iff _).1 hn
    have := (it_keeps m hs (N + 1)).sol h hS a a ha ha
    omega
  · intro hn
    have hfix : itM m (N + 1) = itM m N := by
      rcases hend with h | h
      · rw [hn] at h; cases h
      · exact h
    refine ⟨closed_of_fix (N := ent (itM m (N + 1))) (fun a ha => ?_) (fun a b c ha hb hc => chained_via _ (it_len m hs N) ha hc hb) (fun a b _ _ => by rw [hfix]), fun h => ⟨(it_keeps m hs N).sol h, fun hS => (it_keeps m hs N).back hS⟩⟩
    have h1 := it_diag m hs N ha
    have h2 : ¬ ent (itM m (N + 1)) a a < 0 := fun h' => by
      have := (negDiag_iff _).2 ⟨a, ha, h'⟩
      rw [hn] at this; cases this
    rw [hfix] at h2
    omega
end
end Go.Proofs.YtacmaddjpaebfaaGreatDoor
