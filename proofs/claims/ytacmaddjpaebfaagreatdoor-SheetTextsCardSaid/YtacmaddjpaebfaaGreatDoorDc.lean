/- Differences of numbers, closed matrices: plain mathematics. -/
namespace Dc
/-- h keeps to all differences of M below n. -/
def Sol (n : Nat) (M : Nat → Nat → Int) (h : Nat → Int) : Prop := ∀ a b, a < n → b < n → h a - h b ≤ M a b
structure Closed (n : Nat) (M : Nat → Nat → Int) : Prop where
  diag : ∀ a, a < n → M a a = 0
  tri : ∀ a b c, a < n → b < n → c < n → M a b ≤ M a c + M c b

theorem Closed.col {n M} (h : Closed n M) {c : Nat} (hc : c < n) : Sol n M (fun x => M x c) := by
  intro a b ha hb
  have := h.tri a c b ha hc hb
  show M a c - M b c ≤ M a b
  omega
theorem Closed.row {n M} (h : Closed n M) {c : Nat} (hc : c < n) : Sol n M (fun x => - M c x) := by
  intro a b ha hb
  have := h.tri c b a hc hb ha
  show - M c a - - M c b ≤ M a b
  omega

/-- A matrix that keeps the solutions and only lessens. -/
structure Keeps (n : Nat) (M M' : Nat → Nat → Int) : Prop where
  le : ∀ a b, a < n → b < n → M' a b ≤ M a b
  sol : ∀ h, Sol n M h → Sol n M' h
theorem Keeps.refl (n M) : Keeps n M M := ⟨fun _ _ _ _ => Int.le_refl _, fun _ h => h⟩
theorem Keeps.trans {n A B C} (h : Keeps n A B) (k : Keeps n B C) : Keeps n A C :=
  ⟨fun a b ha hb => Int.le_trans (k.le a b ha hb) (h.le a b ha hb), fun x hx => k.sol x (h.sol x hx)⟩
theorem Keeps.back {n M M'} (k : Keeps n M M') {h} (hs : Sol n M' h) : Sol n M h := fun a b ha hb => Int.le_trans (hs a b ha hb) (k.le a b ha hb)

/-- one entry is lessened by a way over c -/
def upd (M : Nat → Nat → Int) (i j c : Nat) : Nat → Nat → Int := fun a b => if a = i ∧ b = j then min (M i j) (M i c + M c j) else M a b
theorem upd_keeps {n M} {i j c : Nat} (hi : i < n) (hj : j < n) (hc : c < n) : Keeps n M (upd M i j c) := by
  constructor
  · intro a b _ _
    unfold upd
    split
    · rename_i h; rw [h.1, h.2]; exact Int.min_le_left _ _
    · exact Int.le_refl _
  · intro h hs a b ha hb
    unfold upd
    split
    · rename_i e
      have h1 := hs i j hi hj
      have h2 := hs i c hi hc
      have h3 := hs c j hc hj
      rw [e.1, e.2]
      omega
    · exact hs a b ha hb

/-- THE DOUBLING: a fixed point with a diagonal of zeros is closed. -/
theorem closed_of_fix {n : Nat} {M N : Nat → Nat → Int} (d : ∀ a, a < n → M a a = 0) (hN : ∀ a b c, a < n → b < n → c < n → N a b ≤ M a c + M c b) (fix : ∀ a b, a < n → b < n → N a b = M a b) : Closed n M :=
  ⟨d, fun a b c ha hb hc => by rw [← fix a b ha hb]; exact hN a b c ha hb hc⟩

/-- the stage k of narrow, all entries at once -/
def stage (M : Nat → Nat → Int) (k : Nat) : Nat → Nat → Int := fun a b => min (M a b) (M a k + M k b)
theorem stage_tri {n k : Nat} {M : Nat → Nat → Int} (hk : k < n) (d : M k k = 0) (ht : ∀ a b c, a < n → b < n → c < k → M a b ≤ M a c + M c b) :
    ∀ a b c, a < n → b < n → c < k + 1 → stage M k a b ≤ stage M k a c + stage M k c b := by
  intro a b c ha hb hc
  unfold stage
  by_cases e : c = k
  · subst e
    rw [d]
    omega
  · have hck : c < k := by omega
    have h1 := ht a b c ha hb hck
    have h2 := ht a k c ha hk hck
    have h3 := ht k b c hk hb hck
    have h4 := ht k k c hk hk hck
    omega

/-- what a closed matrix says: the most that a can be above b -/
def IsMost (P : (Nat → Int) → Prop) (a b : Nat) (m : Int) : Prop := (∀ h, P h → h a - h b ≤ m) ∧ ∃ h, P h ∧ h a - h b = m
theorem IsMost.unique {P a b m m'} (h : IsMost P a b m) (k : IsMost P a b m') : m = m' := by
  obtain ⟨x, hx, ex⟩ := h.2
  obtain ⟨y, hy, ey⟩ := k.2
  have := h.1 y hy
  have := k.1 x hx
  omega
theorem Closed.most {n M} (h : Closed n M) {a b : Nat} (ha : a < n) (hb : b < n) : IsMost (Sol n M) a b (M a b) := by
  refine ⟨fun x hx => hx a b ha hb, _, h.col hb, ?_⟩
  show M a b - M b b = M a b
  rw [h.diag b hb]; omega
/-- EACH NUMBER BETWEEN THE ENDS IS REACHED. -/
theorem Closed.reach {n M} (h : Closed n M) {a b : Nat} (ha : a < n) (hb : b < n) (k : Int) : (∃ x, Sol n M x ∧ x a - x b = k) ↔ - M b a ≤ k ∧ k ≤ M a b := by
  constructor
  · rintro ⟨x, hx, rfl⟩
    have h1 := hx a b ha hb
    have h2 := hx b a hb ha
    omega
  · rintro ⟨h1, h2⟩
    have da := h.diag a ha
    have db := h.diag b hb
    refine ⟨fun x => min (M x b) (k + M x a), fun x y hx hy => ?_, ?_⟩
    · have e1 := h.tri x b y hx hb hy
      have e2 := h.tri x a y hx ha hy
      show min (M x b) (k + M x a) - min (M y b) (k + M y a) ≤ M x y
      omega
    · show min (M a b) (k + M a a) - min (M b b) (k + M b a) = k
      rw [da, db]
      omega
end Dc
