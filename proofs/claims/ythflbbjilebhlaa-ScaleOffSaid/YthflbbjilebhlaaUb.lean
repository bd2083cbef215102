/- All scales in their order: what the tree of fractions gives, reckoned out. No program is named here. -/
import Derived.Test.YthflbbjilebhlaaUa
set_option linter.unusedSimpArgs false
set_option linter.unusedVariables false
namespace Sc
def castS (s : Nat × Nat) : Scl := ((s.1 : Int), (s.2 : Int))
def sbN : Nat → Nat × Nat → Nat × Nat → List (Nat × Nat)
  | 0, _, _ => []
  | f + 1, a, b => match Nat.ble (a.1 + b.1) 30 && Nat.ble (a.2 + b.2) 30 with
    | true => sbN f a (a.1 + b.1, a.2 + b.2) ++ (a.1 + b.1, a.2 + b.2) :: sbN f (a.1 + b.1, a.2 + b.2) b
    | false => []
theorem sbL_cast : ∀ f a b, sbL f (castS a) (castS b) = (sbN f a b).map castS := by
  intro f
  induction f with
  | zero => intro a b; rfl
  | succ f ih =>
    intro a b
    unfold sbL sbN
    have e : ((castS a).1 + (castS b).1, (castS a).2 + (castS b).2) = castS (a.1 + b.1, a.2 + b.2) := by simp [castS]
    rw [e, ih, ih]
    have e2 : (30 < max ((castS a).1 + (castS b).1) ((castS a).2 + (castS b).2)) ↔ ¬ (a.1 + b.1 ≤ 30 ∧ a.2 + b.2 ≤ 30) := by simp only [castS]; omega
    cases hb : Nat.ble (a.1 + b.1) 30 && Nat.ble (a.2 + b.2) 30
    · rw [if_pos]
      · rfl
      · rw [e2]
        intro h
        rw [Bool.and_eq_false_iff] at hb
        rcases hb with hb | hb
        · rw [Nat.ble_eq_true_of_le h.1] at hb; cases hb
        · rw [Nat.ble_eq_true_of_le h.2] at hb; cases hb
    · rw [if_neg]
      · simp
      · rw [e2]
        rw [Bool.and_eq_true] at hb
        exact fun h => h ⟨Nat.le_of_ble_eq_true hb.1, Nat.le_of_ble_eq_true hb.2⟩
def ascN : List (Nat × Nat) := sbN 61 (0, 1) (1, 0)
theorem asc_cast : asc = ascN.map castS := sbL_cast 61 (0, 1) (1, 0)
theorem desc_cast : desc = (sbN 61 (1, 0) (0, 1)).map castS := sbL_cast 61 (1, 0) (0, 1)
def eqN (a b : Nat × Nat) : Bool := Nat.beq a.1 b.1 && Nat.beq a.2 b.2
def eqLN : List (Nat × Nat) → List (Nat × Nat) → Bool
  | [], [] => true
  | a :: l, b :: r => eqN a b && eqLN l r
  | _, _ => false
theorem eqN_eq {a b : Nat × Nat} (h : eqN a b = true) : a = b := by
  obtain ⟨a1, a2⟩ := a
  obtain ⟨b1, b2⟩ := b
  simp only [eqN, Bool.and_eq_true] at h
  rw [Nat.eq_of_beq_eq_true h.1, Nat.eq_of_beq_eq_true h.2]
theorem eqLN_eq : ∀ l r, eqLN l r = true → l = r := by
  intro l
  induction l with
  | nil => intro r h; cases r <;> simp_all [eqLN]
  | cons a l ih =>
    intro r h
    cases r with
    | nil => simp [eqLN] at h
    | cons b r =>
      simp only [eqLN, Bool.and_eq_true] at h
      rw [eqN_eq h.1, ih r h.2]
set_option maxRecDepth 100000 in
theorem desc_rev0 : eqLN (sbN 61 (1, 0) (0, 1)) ascN.reverse = true := by decide +kernel
theorem desc_rev : desc = asc.reverse := by
  rw [desc_cast, asc_cast, eqLN_eq _ _ desc_rev0, List.map_reverse]
def sortN : List (Nat × Nat) → Bool
  | [] => true
  | a :: l => l.all (fun b => Nat.blt (a.1 * b.2) (b.1 * a.2)) && sortN l
set_option maxRecDepth 100000 in
theorem asc_sorted0 : sortN ascN = true := by decide +kernel
theorem sortN_pw : ∀ l, sortN l = true → (l.map castS).Pairwise fun a b => lessS a b = true := by
  intro l
  induction l with
  | nil => intro _; exact .nil
  | cons a l ih =>
    intro h
    simp only [sortN, Bool.and_eq_true, List.all_eq_true] at h
    rw [List.map_cons, List.pairwise_cons]
    refine ⟨fun b hb => ?_, ih h.2⟩
    obtain ⟨b', hb', rfl⟩ := List.mem_map.1 hb
    have := h.1 b' hb'
    have h2 : a.1 * b'.2 < b'.1 * a.2 := by
      have := Nat.le_of_ble_eq_true this
      omega
    unfold lessS
    refine decide_eq_true ?_
    simp only [castS]
    exact_mod_cast h2
theorem asc_sorted : asc.Pairwise fun a b => lessS a b = true := by rw [asc_cast]; exact sortN_pw _ asc_sorted0
def comN (u d : Nat) : Bool := (List.range 31).any fun k => Nat.ble 2 k && (Nat.beq (u % k) 0 && Nat.beq (d % k) 0)
theorem comB_cast (u d : Nat) : comB (u : Int) (d : Int) = comN u d := by
  have hb : ∀ a : Nat, decide ((a : Int) = 0) = Nat.beq a 0 := by
    intro a
    cases a with
    | zero => rfl
    | succ a => rw [show Nat.beq (a + 1) 0 = false from rfl]; simp; omega
  have hl : ∀ k : Nat, decide (2 ≤ k) = Nat.ble 2 k := by
    intro k
    cases h : Nat.ble 2 k
    · simp only [decide_eq_false_iff_not]; intro h2; rw [Nat.ble_eq_true_of_le h2] at h; cases h
    · simp only [decide_eq_true_eq]; exact Nat.le_of_ble_eq_true h
  unfold comB comN
  congr 1
  funext k
  rw [hl, ← Int.natCast_emod, ← Int.natCast_emod, hb, hb, Bool.and_assoc]
def okN (s : Nat × Nat) : Bool := Nat.ble 1 s.1 && (Nat.ble s.1 30 && (Nat.ble 1 s.2 && (Nat.ble s.2 30 && !comN s.1 s.2)))
theorem sclE_cast (s : Nat × Nat) : sclE (castS s) = 0 ↔ okN s = true := by
  unfold sclE okN castS inB
  simp only [comB_cast]
  have hle : ∀ a b : Nat, Nat.ble a b = true ↔ a ≤ b := fun a b => ⟨Nat.le_of_ble_eq_true, Nat.ble_eq_true_of_le⟩
  simp only [Bool.and_eq_true, hle, Bool.not_eq_true', Bool.and_eq_false_iff, decide_eq_false_iff_not]
  split
  · rename_i h
    constructor
    · intro h2; omega
    · rintro ⟨h1, h2, h3, h4, _⟩; omega
  · rename_i h
    split
    · rename_i h2
      rw [h2]
      simp
    · rename_i h2
      simp only [true_iff]
      exact ⟨by omega, by omega, by omega, by omega, by simpa using h2⟩
set_option maxRecDepth 100000 in
theorem asc_ok0 : ascN.all okN = true := by decide +kernel
theorem asc_ok : ∀ s, s ∈ asc → sclE s = 0 := by
  intro s hs
  rw [asc_cast] at hs
  obtain ⟨t, ht, rfl⟩ := List.mem_map.1 hs
  rw [sclE_cast]
  exact List.all_eq_true.1 asc_ok0 t ht
set_option maxRecDepth 100000 in
theorem asc_all0 : ((List.range 31).all fun u => (List.range 31).all fun d => !okN (u, d) || ascN.any fun s => eqN s (u, d)) = true := by decide +kernel
theorem asc_all (s : Scl) (h : sclE s = 0) : s ∈ asc := by
  have hz := sclE_zero h
  obtain ⟨u, d⟩ := s
  simp only at hz
  obtain ⟨u', rfl⟩ : ∃ u' : Nat, u = (u' : Int) := ⟨u.toNat, by omega⟩
  obtain ⟨d', rfl⟩ : ∃ d' : Nat, d = (d' : Int) := ⟨d.toNat, by omega⟩
  have h1 := List.all_eq_true.1 (List.all_eq_true.1 asc_all0 u' (List.mem_range.2 (by omega))) d' (List.mem_range.2 (by omega))
  have h2 : okN (u', d') = true := (sclE_cast (u', d')).1 h
  rw [h2] at h1
  simp only [Bool.not_true, Bool.false_or, List.any_eq_true] at h1
  obtain ⟨t, ht, he⟩ := h1
  rw [eqN_eq he] at ht
  rw [asc_cast]
  exact List.mem_map.2 ⟨(u', d'), ht, rfl⟩
end Sc
