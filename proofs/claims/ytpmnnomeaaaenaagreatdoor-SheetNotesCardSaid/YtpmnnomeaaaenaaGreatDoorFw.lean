/- A square of numbers that is narrowed in place, way by way: what it comes to, and how low its numbers can get. Plain mathematics; no program is named here. -/
import Derived.Test.YtpmnnomeaaaenaaGreatDoorDc
set_option linter.unusedSimpArgs false
set_option linter.unusedVariables false
namespace Dc
abbrev Mx := Nat → Nat → Int
/-- Of row i the first n numbers have been looked at, by ways over k. -/
def rowF (T : Mx) (k i : Nat) : Nat → Mx
  | 0 => T
  | n + 1 => upd (rowF T k i n) i n k
/-- The first i rows have been looked at. -/
def stgF (N : Nat) (T : Mx) (k : Nat) : Nat → Mx
  | 0 => T
  | i + 1 => rowF (stgF N T k i) k i N
/-- The ways over the first k have been looked at. -/
def fwF (N : Nat) (T : Mx) : Nat → Mx
  | 0 => T
  | k + 1 => stgF N (fwF N T k) k N
def fwIn (N : Nat) (T : Mx) (k i n : Nat) : Mx := rowF (stgF N (fwF N T k) k i) k i n

theorem rowF_keeps {N : Nat} {T : Mx} {k i : Nat} (hk : k < N) (hi : i < N) : ∀ n, n ≤ N → Keeps N T (rowF T k i n) := by
  intro n
  induction n with
  | zero => intro _; exact Keeps.refl _ _
  | succ n ih => intro h; exact (ih (by omega)).trans (upd_keeps hi (by omega) hk)
theorem stgF_keeps {N : Nat} {T : Mx} {k : Nat} (hk : k < N) : ∀ i, i ≤ N → Keeps N T (stgF N T k i) := by
  intro i
  induction i with
  | zero => intro _; exact Keeps.refl _ _
  | succ i ih => intro h; exact (ih (by omega)).trans (rowF_keeps hk (by omega) N (Nat.le_refl _))
theorem fwF_keeps {N : Nat} {T : Mx} : ∀ k, k ≤ N → Keeps N T (fwF N T k) := by
  intro k
  induction k with
  | zero => intro _; exact Keeps.refl _ _
  | succ k ih => intro h; exact (ih (by omega)).trans (stgF_keeps (by omega) N (Nat.le_refl _))
theorem fwF_from {N : Nat} {T : Mx} {k : Nat} : ∀ j, k + j ≤ N → Keeps N (fwF N T k) (fwF N T (k + j)) := by
  intro j
  induction j with
  | zero => intro _; exact Keeps.refl _ _
  | succ j ih => intro h; exact (ih (by omega)).trans (stgF_keeps (show k + j < N by omega) N (Nat.le_refl _))

/-- Where the way over k costs nothing, a round is what it is all at once. -/
theorem rowF_clean {N : Nat} {T C : Mx} {k i : Nat} (hk : k < N) (hi : i < N) (h0 : 0 ≤ T k k) (hC : ∀ a b, a < N → b < N → C a b = if a < i then stage T k a b else T a b) :
    ∀ n, n ≤ N → ∀ a b, a < N → b < N → rowF C k i n a b = if a < i ∨ a = i ∧ b < n then stage T k a b else T a b := by
  intro n
  induction n with
  | zero =>
    intro _ a b ha hb
    rw [rowF, hC a b ha hb]
    by_cases h : a < i
    · rw [if_pos h, if_pos (.inl h)]
    · rw [if_neg h, if_neg (by omega)]
  | succ n ih =>
    intro hn a b ha hb
    have ih := ih (by omega)
    rw [rowF]
    unfold upd
    have sk : ∀ b, stage T k k b = T k b := fun b => by unfold stage; omega
    have sk2 : ∀ a, stage T k a k = T a k := fun a => by unfold stage; omega
    split
    · rename_i e
      obtain ⟨rfl, rfl⟩ := e
      have e1 : (if a < a ∨ a = a ∧ k < b then stage T k a k else T a k) = T a k := by split; exact sk2 a; rfl
      have e2 : (if k < a ∨ k = a ∧ b < b then stage T k k b else T k b) = T k b := by split; exact sk b; rfl
      have e3 : (if a < a ∨ a = a ∧ b < b then stage T k a b else T a b) = T a b := if_neg (by omega)
      have e4 : (if a < a ∨ a = a ∧ b < b + 1 then stage T k a b else T a b) = stage T k a b := if_pos (by omega)
      rw [ih a b ha hb, ih a k ha hk, ih k b hk hb, e1, e2, e3, e4]
      rfl
    · rename_i e
      rw [ih a b ha hb]
      by_cases h : a < i ∨ a = i ∧ b < n
      · rw [if_pos h, if_pos (by omega)]
      · rw [if_neg h, if_neg (by omega)]
theorem stgF_clean {N : Nat} {T : Mx} {k : Nat} (hk : k < N) (h0 : 0 ≤ T k k) : ∀ i, i ≤ N → ∀ a b, a < N → b < N → stgF N T k i a b = if a < i then stage T k a b else T a b := by
  intro i
  induction i with
  | zero => intro _ a b _ _; rw [if_neg (by omega)]; rfl
  | succ i ih =>
    intro hi a b ha hb
    rw [stgF, rowF_clean hk (by omega) h0 (ih (by omega)) N (Nat.le_refl _) a b ha hb]
    by_cases h : a < i + 1
    · rw [if_pos (by omega), if_pos h]
    · rw [if_neg (by omega), if_neg h]
theorem fwF_tri {N : Nat} {T : Mx} (d0 : ∀ a, a < N → T a a = 0) (hF : ∀ a, a < N → 0 ≤ fwF N T N a a) : ∀ k, k ≤ N → ∀ a b c, a < N → b < N → c < k → fwF N T k a b ≤ fwF N T k a c + fwF N T k c b := by
  intro k
  induction k with
  | zero => intro _ a b c _ _ hc; omega
  | succ k ih =>
    intro hk a b c ha hb hc
    have hkN : k < N := by omega
    have h1 := (fwF_keeps (T := T) k (by omega)).le k k hkN hkN
    have h2 := (fwF_from (T := T) (k := k) (N - k) (by omega)).le k k hkN hkN
    rw [show k + (N - k) = N by omega] at h2
    have h3 := hF k hkN
    have h4 := d0 k hkN
    have dk : fwF N T k k k = 0 := by omega
    have cl := stgF_clean (T := fwF N T k) hkN (by omega) N (Nat.le_refl _)
    have e : ∀ x y, x < N → y < N → fwF N T (k + 1) x y = stage (fwF N T k) k x y := fun x y hx hy => by
      rw [fwF, cl x y hx hy, if_pos hx]
    rw [e a b ha hb, e a c ha (by omega), e c b (by omega) hb]
    exact stage_tri hkN dk (ih (by omega)) a b c ha hb hc
/-- THE NARROWED SQUARE: if no number of its diagonal is below 0 it is closed. -/
theorem fwF_closed {N : Nat} {T : Mx} (d0 : ∀ a, a < N → T a a = 0) (hF : ∀ a, a < N → 0 ≤ fwF N T N a a) : Closed N (fwF N T N) := by
  refine ⟨fun a ha => ?_, fun a b c ha hb hc => fwF_tri d0 hF N (Nat.le_refl _) a b c ha hb hc⟩
  have h1 := (fwF_keeps (T := T) N (Nat.le_refl _)).le a a ha ha
  have := d0 a ha
  have := hF a ha
  omega
theorem fwF_sol {N : Nat} {T : Mx} (x : Nat → Int) : Sol N T x ↔ Sol N (fwF N T N) x :=
  ⟨(fwF_keeps N (Nat.le_refl _)).sol x, (fwF_keeps N (Nat.le_refl _)).back⟩
def diagOk (N : Nat) (T : Mx) : Bool := (List.range N).all fun a => decide (0 ≤ T a a)
theorem diagOk_iff (N : Nat) (T : Mx) : diagOk N T = true ↔ ∀ a, a < N → 0 ≤ T a a := by
  unfold diagOk
  rw [List.all_eq_true]
  exact ⟨fun h a ha => by simpa using h a (List.mem_range.2 ha), fun h a ha => by simpa using h a (List.mem_range.1 ha)⟩
theorem diagOk_succ (N : Nat) (T : Mx) : diagOk (N + 1) T = (diagOk N T && decide (0 ≤ T N N)) := by
  unfold diagOk
  rw [List.range_succ, List.all_append]
  simp
/-- It tells whether there is a solution. -/
theorem fwF_fits {N : Nat} {T : Mx} (d0 : ∀ a, a < N → T a a = 0) : diagOk N (fwF N T N) = true ↔ ∃ x, Sol N T x := by
  rw [diagOk_iff]
  constructor
  · intro h
    have hc := fwF_closed d0 h
    rcases Nat.eq_zero_or_pos N with e | e
    · subst e
      exact ⟨fun _ => 0, fun a b ha _ => absurd ha (by omega)⟩
    · exact ⟨_, (fwF_sol _).2 (hc.col e)⟩
  · rintro ⟨x, hx⟩ a ha
    have := (fwF_sol x).1 hx a a ha ha
    omega

/-! ### How low the numbers get -/
structure RndB (L : Int) (N k i n : Nat) (C : Mx) : Prop where
  kk : -2 * L ≤ C k k
  col : ∀ a, a < N → -3 * L ≤ C a k
  row : ∀ a, a < N → -3 * L ≤ C k a
  all : ∀ a b, a < N → b < N → -6 * L ≤ C a b
  left : ∀ a b, a < N → b < N → (i < a ∨ a = i ∧ n ≤ b) → -L ≤ C a b
theorem RndB.step {L : Int} {N k i n : Nat} {C : Mx} (hL : 0 ≤ L) (hk : k < N) (hi : i < N) (hn : n < N) (h : RndB L N k i n C) : RndB L N k i (n + 1) (upd C i n k) := by
  have hx := h.left i n hi hn (.inr ⟨rfl, Nat.le_refl _⟩)
  have key : ∀ a b, a < N → b < N → (a = i ∧ b = n) → (-6 * L ≤ min (C i n) (C i k + C k n)) ∧ (a = k ∧ b = k → -2 * L ≤ min (C i n) (C i k + C k n)) ∧ (a = k ∨ b = k → -3 * L ≤ min (C i n) (C i k + C k n)) := by
    rintro a b ha hb ⟨rfl, rfl⟩
    have h1 := h.col a ha
    have h2 := h.row b hb
    have h3 := h.kk
    refine ⟨by omega, ?_, ?_⟩
    · rintro ⟨rfl, rfl⟩
      omega
    · intro e
      rcases e with rfl | rfl
      · omega
      · omega
  refine ⟨?_, fun a ha => ?_, fun a ha => ?_, fun a b ha hb => ?_, fun a b ha hb hc => ?_⟩
  · unfold upd
    split
    · rename_i e; exact (key k k hk hk e).2.1 ⟨rfl, rfl⟩
    · exact h.kk
  · unfold upd
    split
    · rename_i e; exact (key a k ha hk e).2.2 (.inr rfl)
    · exact h.col a ha
  · unfold upd
    split
    · rename_i e; exact (key k a hk ha e).2.2 (.inl rfl)
    · exact h.row a ha
  · unfold upd
    split
    · rename_i e; exact (key a b ha hb e).1
    · exact h.all a b ha hb
  · unfold upd
    rw [if_neg (by omega)]
    exact h.left a b ha hb (by omega)
theorem RndB.next {L : Int} {N k i : Nat} {C : Mx} (h : RndB L N k i N C) : RndB L N k (i + 1) 0 C :=
  ⟨h.kk, h.col, h.row, h.all, fun a b ha hb hc => h.left a b ha hb (by omega)⟩
theorem RndB.rows {L : Int} {N k i : Nat} {C : Mx} (hL : 0 ≤ L) (hk : k < N) (hi : i < N) (h : RndB L N k i 0 C) : ∀ n, n ≤ N → RndB L N k i n (rowF C k i n) := by
  intro n
  induction n with
  | zero => intro _; exact h
  | succ n ih => intro hn; exact (ih (by omega)).step hL hk hi (by omega)
theorem RndB.stages {L : Int} {N k : Nat} {C : Mx} (hL : 0 ≤ L) (hk : k < N) (h : RndB L N k 0 0 C) : ∀ i, i ≤ N → RndB L N k i 0 (stgF N C k i) := by
  intro i
  induction i with
  | zero => intro _; exact h
  | succ i ih => intro hi; exact ((ih (by omega)).rows hL hk (by omega) N (Nat.le_refl _)).next
theorem RndB.start {L : Int} {N k : Nat} {C : Mx} (hL : 0 ≤ L) (hk : k < N) (h : ∀ a b, a < N → b < N → -L ≤ C a b) : RndB L N k 0 0 C :=
  ⟨by have := h k k hk hk; omega, fun a ha => by have := h a k ha hk; omega, fun a ha => by have := h k a hk ha; omega, fun a b ha hb => by have := h a b ha hb; omega, fun a b ha hb _ => h a b ha hb⟩
def pow6 : Nat → Int
  | 0 => 1
  | k + 1 => 6 * pow6 k
theorem pow6_pos : ∀ k, 1 ≤ pow6 k := by
  intro k
  induction k with
  | zero => simp [pow6]
  | succ k ih => rw [pow6]; omega
theorem fwF_low {N : Nat} {T : Mx} {L : Int} (hL : 0 ≤ L) (h : ∀ a b, a < N → b < N → -L ≤ T a b) : ∀ k, k ≤ N → ∀ a b, a < N → b < N → -(L * pow6 k) ≤ fwF N T k a b := by
  intro k
  induction k with
  | zero => intro _ a b ha hb; simpa [pow6, fwF] using h a b ha hb
  | succ k ih =>
    intro hk a b ha hb
    have hp : 0 ≤ L * pow6 k := Int.mul_nonneg hL (by have := pow6_pos k; omega)
    have := ((RndB.start (k := k) hp (by omega) (ih (by omega))).stages hp (by omega) N (Nat.le_refl _)).all a b ha hb
    rw [fwF, pow6]
    have e : L * (6 * pow6 k) = 6 * (L * pow6 k) := by rw [Int.mul_left_comm]
    rw [e]
    omega
theorem pow6_le : ∀ k, k ≤ 8 → pow6 k ≤ 1679616 := by
  intro k hk
  match k, hk with
  | 0, _ => decide
  | 1, _ => decide
  | 2, _ => decide
  | 3, _ => decide
  | 4, _ => decide
  | 5, _ => decide
  | 6, _ => decide
  | 7, _ => decide
  | 8, _ => decide
  | n + 9, h => omega
/-- At each step of the narrowing the numbers are far from what an int can't hold. -/
theorem fwIn_bd {N : Nat} {T : Mx} (hN : N ≤ 9) (h : ∀ a b, a < N → b < N → -9000 ≤ T a b ∧ T a b ≤ 9000) {k i n : Nat} (hk : k < N) (hi : i < N) (hn : n ≤ N) : ∀ a b, a < N → b < N → -1000000000000 ≤ fwIn N T k i n a b ∧ fwIn N T k i n a b ≤ 9000 := by
  intro a b ha hb
  have hp : 0 ≤ 9000 * pow6 k := by have := pow6_pos k; omega
  have hp2 := pow6_le k (by omega)
  have h1 := (((RndB.start hp hk (fwF_low (by decide) (fun a b ha hb => (h a b ha hb).1) k (by omega))).stages hp hk i (by omega)).rows hp hk hi n hn).all a b ha hb
  have h2 := (((fwF_keeps (T := T) k (by omega)).trans (stgF_keeps hk i (by omega))).trans (rowF_keeps hk hi n hn)).le a b ha hb
  have h3 := (h a b ha hb).2
  unfold fwIn
  omega
end Dc
