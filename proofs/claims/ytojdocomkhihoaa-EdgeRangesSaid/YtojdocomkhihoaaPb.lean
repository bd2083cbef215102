/- The cheapest changes: the search of cheapest, as plain data, ends at the first ones of them. No program is named here. -/
import Derived.Test.YtojdocomkhihoaaPa
set_option linter.unusedSimpArgs false
set_option linter.unusedVariables false
namespace Go.Proofs.Ytojdocomkhihoaa
open Go Go.RowKit Ed

/-! ## The cheapest changes -/
theorem absI_mul {w a b c d : Int} (hw : 0 ≤ w) (h : absI a + absI b ≤ absI c + absI d) : w * absI a + w * absI b ≤ w * absI c + w * absI d := by
  rw [← Int.mul_add, ← Int.mul_add]
  exact Int.mul_le_mul_of_nonneg_left h hw
def costF (s : Sys) (x : Nat → Int) : Int := sumR (fun i => s.wt i * absI (x i)) s.n
theorem costF_congr {s : Sys} {x y : Nat → Int} (h : ∀ i, i < s.n → x i = y i) : costF s x = costF s y :=
  sumR_congr fun i hi => by rw [h i hi]
theorem costF_pair {s : Sys} (hf : Fine s) {x y u v : Nat → Int} (h : ∀ i, i < s.n → absI (u i) + absI (v i) ≤ absI (x i) + absI (y i)) : costF s u + costF s v ≤ costF s x + costF s y := by
  unfold costF
  rw [← sumR_add, ← sumR_add]
  exact sumR_le fun i hi => absI_mul (hf.w0 i hi) (h i hi)
theorem costF_minmax {s : Sys} (hf : Fine s) (x y : Nat → Int) : costF s (fun i => min (x i) (y i)) + costF s (fun i => max (x i) (y i)) ≤ costF s x + costF s y :=
  costF_pair hf fun i _ => by unfold absI; omega
/-- What costs least. -/
def Mn (s : Sys) (x : Nat → Int) : Prop := Ag s x ∧ ∀ y, Ag s y → costF s x ≤ costF s y
theorem costF_nonneg {s : Sys} (hf : Fine s) (x : Nat → Int) : 0 ≤ costF s x := by
  have := sumR_le (f := fun _ => 0) (g := fun i => s.wt i * absI (x i)) (n := s.n) fun i hi => Int.mul_nonneg (hf.w0 i hi) (by unfold absI; omega)
  rw [sumR_const] at this
  unfold costF
  omega
theorem Mn.some {s : Sys} (hf : Fine s) (h : ∃ x, Ag s x) : ∃ x, Mn s x := by
  have key : ∀ (m : Nat) (x : Nat → Int), Ag s x → costF s x ≤ m → ∃ x, Mn s x := by
    intro m
    induction m with
    | zero =>
      intro x hx hm
      exact ⟨x, hx, fun y _ => by have := costF_nonneg hf y; omega⟩
    | succ m ih =>
      intro x hx hm
      by_cases hall : ∀ y, Ag s y → costF s x ≤ costF s y
      · exact ⟨x, hx, hall⟩
      · have : ∃ y, Ag s y ∧ costF s y < costF s x := by
          apply Classical.byContradiction
          intro hno
          apply hall
          intro y hy
          rcases Int.lt_or_le (costF s y) (costF s x) with h | h
          · exact absurd ⟨y, hy, h⟩ hno
          · exact h
        obtain ⟨y, hy, hlt⟩ := this
        exact ih y hy (by omega)
  obtain ⟨x, hx⟩ := h
  exact key (costF s x).toNat x hx (by have := costF_nonneg hf x; omega)
/-- The least ones of the cheapest changes. -/
theorem Mn.bot {s : Sys} (hf : Fine s) (h : ∃ x, Ag s x) : ∃ z, Mn s z ∧ ∀ y, Mn s y → ∀ i, i < s.n → z i ≤ y i := by
  refine least_of s.n (fun i => -s.most i) (Mn s) (fun x y hx hy => ⟨hx.1.min hy.1, fun u hu => ?_⟩) (fun x hx i hi => (hx.1.bx i hi).1) (Mn.some hf h)
  have h1 := costF_minmax hf x y
  have h2 := hx.2 u hu
  have h3 := hy.2 u hu
  have h4 := hx.2 _ (hx.1.max hy.1)
  omega
theorem cost_most {s : Sys} (hf : Fine s) {x : Nat → Int} (hx : Ag s x) : costF s x ≤ sumR (fun i => s.wt i * s.most i) s.n :=
  sumR_le fun i hi => Int.mul_le_mul_of_nonneg_left (by have := hx.bx i hi; unfold absI; omega) (hf.w0 i hi)
/-- The greatest one of so many numbers. -/
theorem max_of (d : Nat → Int) : ∀ n : Nat, 1 ≤ n → ∃ i, i < n ∧ ∀ j, j < n → d j ≤ d i := by
  intro n
  induction n with
  | zero => intro h; omega
  | succ n ih =>
    intro _
    rcases Nat.eq_zero_or_pos n with h | h
    · subst h; exact ⟨0, by omega, fun j hj => by rw [show j = 0 by omega]; exact Int.le_refl _⟩
    · obtain ⟨i, hi, hm⟩ := ih h
      rcases Int.lt_or_le (d i) (d n) with hlt | hle
      · refine ⟨n, by omega, fun j hj => ?_⟩
        by_cases e : j = n
        · subst e; exact Int.le_refl _
        · have := hm j (by omega); omega
      · refine ⟨i, by omega, fun j hj => ?_⟩
        by_cases e : j = n
        · subst e; exact hle
        · exact hm j (by omega)
/-- Above the least ones of the cheapest changes, all that are farthest above them can be lowered, at no cost. -/
theorem Mn.step {s : Sys} (hf : Fine s) {x z : Nat → Int} (hx : Ag s x) (hz : Mn s z) (hle : ∀ i, i < s.n → z i ≤ x i) (hne : ∃ i, i < s.n ∧ z i < x i) :
    ∃ D : Int, 1 ≤ D ∧ (∃ i, i < s.n ∧ x i - z i = D) ∧ Ag s (fun i => if x i - z i = D then x i - 1 else x i) ∧ costF s (fun i => if x i - z i = D then x i - 1 else x i) ≤ costF s x := by
  obtain ⟨m, hm, hmax⟩ := max_of (fun i => x i - z i) s.n hf.n1
  obtain ⟨i, hi, hlt⟩ := hne
  have h1 := hmax i hi
  refine ⟨x m - z m, by omega, ⟨m, hm, rfl⟩, ?_⟩
  obtain ⟨D, hD⟩ : ∃ D, x m - z m = D := ⟨_, rfl⟩
  simp only [hD] at hmax h1 ⊢
  have a1 : Ag s (fun i => if x i - z i = D then x i - 1 else x i) := by
    refine ⟨fun i hi => ?_, fun e he => ?_⟩
    · have := hx.bx i hi
      have := hz.1.bx i hi
      have := hle i hi
      split <;> omega
    · have := hx.ed e he
      have := hz.1.ed e he
      have := hmax _ (hf.ea e he)
      have := hmax _ (hf.eb e he)
      split <;> split <;> omega
  have a2 : Ag s (fun i => if x i - z i = D then z i + 1 else z i) := by
    refine ⟨fun i hi => ?_, fun e he => ?_⟩
    · have := hx.bx i hi
      have := hz.1.bx i hi
      have := hle i hi
      split <;> omega
    · have := hx.ed e he
      have := hz.1.ed e he
      have := hmax _ (hf.ea e he)
      have := hmax _ (hf.eb e he)
      split <;> split <;> omega
  refine ⟨a1, ?_⟩
  have h2 := hz.2 _ a2
  have h3 := costF_pair hf (x := x) (y := z) (u := fun i => if x i - z i = D then x i - 1 else x i) (v := fun i => if x i - z i = D then z i + 1 else z i) fun i hi => by
    unfold absI
    split <;> omega
  omega
/-- What the best place next to changes is, is not below the least ones. -/
theorem Mn.keep {s : Sys} (hf : Fine s) {x y z : Nat → Int} (hx : Ag s x) (hy : Ag s y) (hz : Mn s z) (hl : ∀ y, Mn s y → ∀ i, i < s.n → z i ≤ y i) (hle : ∀ i, i < s.n → z i ≤ x i)
    (hbest : costF s y ≤ costF s (fun i => max (y i) (z i))) : ∀ i, i < s.n → z i ≤ y i := by
  have h1 := costF_minmax hf y z
  have hM : Mn s (fun i => min (y i) (z i)) := ⟨hy.min hz.1, fun u hu => by
    have h2 := hz.2 u hu
    have h3 := hz.2 _ (hy.min hz.1)
    omega⟩
  intro i hi
  have := hl _ hM i hi
  omega
/-! ## The search -/
/-- Changes with a set of sheets lowered. -/
def lowBy (s : Nat) (x : List Int) : Nat → List Int
  | 0 => x
  | k + 1 => if s.testBit k then (lowBy s x k).set k ((lowBy s x k).getD k 0 - 1) else lowBy s x k
theorem lowBy_length (s : Nat) (x : List Int) : ∀ k, (lowBy s x k).length = x.length := by
  intro k
  induction k with
  | zero => rfl
  | succ k ih => simp only [lowBy]; split <;> simp [ih]
theorem lowBy_get (s : Nat) (x : List Int) : ∀ k, k ≤ x.length → ∀ i, (lowBy s x k).getD i 0 = if i < k ∧ s.testBit i = true then x.getD i 0 - 1 else x.getD i 0 := by
  intro k
  induction k with
  | zero => intro _ i; simp [lowBy]
  | succ k ih =>
    intro hk i
    have ih' := ih (by omega)
    simp only [lowBy]
    cases hb : s.testBit k with
    | true =>
      rw [if_pos rfl, getD_set, lowBy_length]
      by_cases e : k = i
      · subst e
        rw [if_pos ⟨rfl, by omega⟩, ih' k, if_neg (by omega), if_pos ⟨by omega, hb⟩]
      · rw [if_neg (fun h => e h.1), ih' i]
        by_cases h : i < k ∧ s.testBit i = true
        · rw [if_pos h, if_pos ⟨by omega, h.2⟩]
        · rw [if_neg h, if_neg (fun h' => h ⟨by omega, h'.2⟩)]
    | false =>
      rw [if_neg (by simp), ih' i]
      by_cases h : i < k ∧ s.testBit i = true
      · rw [if_pos h, if_pos ⟨by omega, h.2⟩]
      · rw [if_neg h, if_neg (fun h' => h ⟨by
          have : i ≠ k := by rintro rfl; rw [hb] at h'; simp at h'
          omega, h'.2⟩)]
/-- All places next to changes, from the one with all sheets lowered to themselves. -/
def setsL (n : Nat) : List Nat := (List.range (2 ^ n)).map fun less => 2 ^ n - 1 - less
def belowL (n : Nat) (x : List Int) : List (List Int) := (setsL n).map fun s => lowBy s x n
/-- The best one of several things. -/
def bestS {α : Type} (bet : α → α → Bool) (z : α) (l : List α) : α × Bool := l.foldl (fun p x => if p.2 || bet x p.1 then (x, false) else p) (z, true)
theorem bestS_snoc {α : Type} (bet : α → α → Bool) (z : α) (l : List α) (x : α) : bestS bet z (l ++ [x]) = if (bestS bet z l).2 || bet x (bestS bet z l).1 then (x, false) else bestS bet z l := by
  unfold bestS
  rw [List.foldl_append]
  rfl
/-- The first one of the least. -/
theorem bestS_first {α : Type} (v : α → Int) (z : α) : ∀ l : List α, (l = [] ∧ bestS (fun a b => decide (v a < v b)) z l = (z, true)) ∨
    ∃ l1 r l2, l = l1 ++ r :: l2 ∧ bestS (fun a b => decide (v a < v b)) z l = (r, false) ∧ (∀ y, y ∈ l1 → v r < v y) ∧ ∀ y, y ∈ l2 → v r ≤ v y := by
  intro l
  have h : ∀ (n : Nat) (l : List α), l.length = n → (l = [] ∧ bestS (fun a b => decide (v a < v b)) z l = (z, true)) ∨
    ∃ l1 r l2, l = l1 ++ r :: l2 ∧ bestS (fun a b => decide (v a < v b)) z l = (r, false) ∧ (∀ y, y ∈ l1 → v r < v y) ∧ ∀ y, y ∈ l2 → v r ≤ v y := by
    intro n
    induction n with
    | zero => intro l hl; exact .inl ⟨List.length_eq_zero_iff.1 hl, by rw [List.length_eq_zero_iff.1 hl]; rfl⟩
    | succ n ih =>
      intro l hl
      have hne : l ≠ [] := by rintro rfl; simp at hl
      rw [← List.dropLast_concat_getLast hne]
      generalize l.getLast hne = x
      have hd : l.dropLast.length = n := by rw [List.length_dropLast]; omega
      generalize l.dropLast = k at *
      right
      rw [bestS_snoc]
      rcases ih k hd with ⟨rfl, h⟩ | ⟨l1, r, l2, rfl, h, h1, h2⟩
      · exact ⟨[], x, [], rfl, by rw [h]; rfl, by simp, by simp⟩
      · rw [h]
        simp only [Bool.false_or, decide_eq_true_eq]
        by_cases hlt : v x < v r
        · rw [if_pos hlt]
          refine ⟨l1 ++ r :: l2, x, [], rfl, rfl, fun y hy => ?_, by simp⟩
          rcases List.mem_append.1 hy with hy | hy
          · have := h1 y hy; omega
          · rcases List.mem_cons.1 hy with rfl | hy
            · exact hlt
            · have := h2 y hy; omega
        · rw [if_neg hlt]
          refine ⟨l1, r, l2 ++ [x], by simp, rfl, h1, fun y hy => ?_⟩
          rcases List.mem_append.1 hy with hy | hy
          · exact h2 y hy
          · rw [List.mem_singleton.1 hy]; omega
  exact h _ l rfl
/-- What changes cost or, if they do not agree, more than any that do. -/
def priceC (c : Cas) (ws x : List Int) : Int := if lowK c.shs x c.shs.length || decide (0 ≤ firstB (apartB ws c.eds x) 0 c.eds.length) then dearC c + 1 else costK c.shs x c.shs.length
def nextC (c : Cas) (ws x : List Int) : List Int := (bestS (fun a b => decide (priceC c ws a < priceC c ws b)) z5 (belowL c.shs.length x)).1
def cheapGo (c : Cas) (ws : List Int) : Nat → List Int → Option (List Int)
  | 0, _ => none
  | g + 1, x => if nextC c ws x = x then some x else cheapGo c ws g (nextC c ws x)
theorem costK_eq (c : Cas) (ws x : List Int) : costK c.shs x c.shs.length = costF (sysC c ws) (fun i => x.getD i 0) := by
  unfold costF
  simp only [sysC]
  have : ∀ k, costK c.shs x k = sumR (fun i => (c.shs.getD i default).wt * absI (x.getD i 0)) k := by
    intro k
    induction k with
    | zero => rfl
    | succ k ih => simp only [costK, sumR, ih]
  exact this _
theorem dearC_eq (c : Cas) (ws : List Int) : dearC c = sumR (fun i => (sysC c ws).wt i * (sysC c ws).most i) (sysC c ws).n := by
  simp only [sysC]
  have : ∀ k, k ≤ c.shs.length → dearK c.shs k = sumR (fun i => (c.shs.getD i default).wt * (c.shs.getD i default).most) k := by
    intro k
    induction k with
    | zero => intro _; rfl
    | succ k ih =>
      intro hk
      simp only [sumR]
      rw [← ih (by omega), getD_lt _ _ (show k < c.shs.length by omega)]
      unfold dearK
      rw [List.take_succ_eq_append_getElem (by omega), List.map_append, List.sum_append]
      simp
  exact this _ (Nat.le_refl _)
theorem firstB_iff (p : Nat → Bool) (n : Nat) : 0 ≤ firstB p 0 n ↔ ∃ i, i < n ∧ p i = true := by
  have key : ∀ g k, 0 ≤ firstB p k g ↔ ∃ i, k ≤ i ∧ i < k + g ∧ p i = true := by
    intro g
    induction g with
    | zero => intro k; simp only [firstB]; exact ⟨fun h => by omega, fun ⟨i, h1, h2, _⟩ => by omega⟩
    | succ g ih =>
      intro k
      simp only [firstB]
      cases hp : p k with
      | true => simp only [if_true]; exact ⟨fun _ => ⟨k, by omega, by omega, hp⟩, fun _ => by omega⟩
      | false =>
        rw [if_neg (by simp), ih]
        constructor
        · rintro ⟨i, h1, h2, h3⟩; exact ⟨i, by omega, by omega, h3⟩
        · rintro ⟨i, h1, h2, h3⟩
          refine ⟨i, ?_, by omega, h3⟩
          have : i ≠ k := by rintro rfl; rw [hp] at h3; cases h3
          omega
  rw [key]
  constructor
  · rintro ⟨i, _, h2, h3⟩; exact ⟨i, by omega, h3⟩
  · rintro ⟨i, h2, h3⟩; exact ⟨i, by omega, by omega, h3⟩
theorem apart_iff (c : Cas) (ws x : List Int) : firstB (apartB ws c.eds x) 0 c.eds.length < 0 ↔ ∀ e, e ∈ (sysC c ws).es → e.lo ≤ x.getD e.a 0 - x.getD e.b 0 ∧ x.getD e.a 0 - x.getD e.b 0 ≤ e.hi := by
  have h := firstB_iff (apartB ws c.eds x) c.eds.length
  constructor
  · intro hlt e he
    simp only [sysC, List.mem_map, List.mem_range] at he
    obtain ⟨i, hi, rfl⟩ := he
    have : ¬ apartB ws c.eds x i = true := fun hp => by have := h.2 ⟨i, hi, hp⟩; omega
    unfold apartB inB at this
    simpa using this
  · intro hall
    rcases Int.lt_or_le (firstB (apartB ws c.eds x) 0 c.eds.length) 0 with h1 | h1
    · exact h1
    · obtain ⟨i, hi, hp⟩ := h.1 h1
      have := hall ⟨(c.eds.getD i default).a.toNat, (c.eds.getD i default).b.toNat, (wL ws i).1, (wL ws i).2⟩ (by simp only [sysC, List.mem_map, List.mem_range]; exact ⟨i, hi, rfl⟩)
      unfold apartB inB at hp
      simp at hp this
      omega
/-- Prices, of changes that are not too high. -/
theorem price_in (c : Cas) (hv : Valid c) (ws x : List Int) (hm : ∀ i, i < c.shs.length → x.getD i 0 ≤ (c.shs.getD i default).most) : (Ag (sysC c ws) (fun i => x.getD i 0) ∧ priceC c ws x = costF (sysC c ws) (fun i => x.getD i 0) ∧ priceC c ws x ≤ dearC c) ∨ (¬ Ag (sysC c ws) (fun i => x.getD i 0) ∧ priceC c ws x = dearC c + 1) := by
  by_cases hA : Ag (sysC c ws) (fun i => x.getD i 0)
  · left
    have h1 : lowK c.shs x c.shs.length = false := by
      cases hl : lowK c.shs x c.shs.length with
      | false => rfl
      | true =>
        obtain ⟨i, hi, hlt⟩ := lowK_yes hl
        have := (hA.bx i hi).1
        simp only [sysC] at this
        omega
    have h2 : ¬ 0 ≤ firstB (apartB ws c.eds x) 0 c.eds.length := by
      have := (apart_iff c ws x).2 hA.ed
      omega
    have e : priceC c ws x = costF (sysC c ws) (fun i => x.getD i 0) := by
      unfold priceC
      rw [h1, Bool.false_or, if_neg (by simpa using h2), costK_eq c ws]
    refine ⟨hA, e, ?_⟩
    rw [e, dearC_eq c ws]
    exact cost_most (sys_fine c hv ws) hA
  · right
    refine ⟨hA, ?_⟩
    unfold priceC
    rw [if_pos]
    simp only [Bool.or_eq_true, decide_eq_true_eq]
    apply Classical.byContradiction
    intro hno
    apply hA
    refine ⟨fun i hi => ⟨?_, hm i hi⟩, (apart_iff c ws x).1 (by omega)⟩
    exact lowK_no (n := c.shs.length) (by cases h : lowK c.shs x c.shs.length with | false => rfl | true => exact absurd (.inl h) hno) i hi
theorem setsL_mem (n s : Nat) : s ∈ setsL n ↔ s < 2 ^ n := by
  have : 0 < 2 ^ n := Nat.pow_pos (by omega)
  unfold setsL
  simp only [List.mem_map, List.mem_range]
  constructor
  · rintro ⟨i, hi, rfl⟩; omega
  · intro h; exact ⟨2 ^ n - 1 - s, by omega, by omega⟩
/-- A set out of what is in it. -/
theorem set_of (p : Nat → Bool) : ∀ n : Nat, ∃ s, s < 2 ^ n ∧ ∀ i, i < n → s.testBit i = p i := by
  intro n
  induction n with
  | zero => exact ⟨0, by simp, fun i hi => by omega⟩
  | succ n ih =>
    obtain ⟨s, hs, hb⟩ := ih
    have hz : s.testBit n = false := Nat.testBit_lt_two_pow hs
    cases hp : p n with
    | false =>
      refine ⟨s, by rw [Nat.pow_succ]; omega, fun i hi => ?_⟩
      by_cases e : i = n
      · subst e; rw [hz, hp]
      · exact hb i (by omega)
    | true =>
      refine ⟨2 ^ n + s, by rw [Nat.pow_succ]; omega, fun i hi => ?_⟩
      by_cases e : i = n
      · subst e; rw [Nat.testBit_two_pow_add_eq, hz, hp]; rfl
      · rw [Nat.testBit_two_pow_add_gt (by omega), hb i (by omega)]
theorem setsL_last (n : Nat) : setsL n = (setsL n).dropLast ++ [0] := by
  have : 0 < 2 ^ n := Nat.pow_pos (by omega)
  have hl : (setsL n).length = 2 ^ n := by simp [setsL]
  have hne : setsL n ≠ [] := by intro h; rw [h] at hl; simp at hl; omega
  have := List.dropLast_concat_getLast hne
  rw [List.getLast_eq_getElem] at this
  simp only [setsL, List.length_map, List.length_range, List.getElem_map, List.getElem_range] at this ⊢
  rw [Nat.sub_self] at this
  exact this.symm
theorem setsL_pos {n s : Nat} (h : s ∈ (setsL n).dropLast) : 0 < s := by
  have hp : 0 < 2 ^ n := Nat.pow_pos (by omega)
  rw [List.dropLast_eq_take] at h
  obtain ⟨i, hi, rfl⟩ := List.getElem_of_mem h
  simp only [setsL, List.length_map, List.length_range, List.length_take] at hi
  simp only [setsL, List.getElem_take, List.getElem_map, List.getElem_range]
  omega
theorem lowBy_zero (x : List Int) : ∀ k, lowBy 0 x k = x := by
  intro k
  induction k with
  | zero => rfl
  | succ k ih => simp [lowBy, ih]
theorem lowBy_ne {n s : Nat} (h0 : 0 < s) (hs : s < 2 ^ n) (x : List Int) (hn : n ≤ x.length) : lowBy s x n ≠ x := by
  intro h
  have : ∃ i, i < n ∧ s.testBit i = true := by
    apply Classical.byContradiction
    intro hno
    have : s = 0 := Nat.eq_of_testBit_eq fun i => by
      rw [Nat.zero_testBit]
      rcases Nat.lt_or_ge i n with hi | hi
      · cases hb : s.testBit i with
        | false => rfl
        | true => exact absurd ⟨i, hi, hb⟩ hno
      · exact Nat.testBit_lt_two_pow (Nat.lt_of_lt_of_le hs (Nat.pow_le_pow_right (by omega) hi))
    omega
  obtain ⟨i, hi, hb⟩ := this
  have := lowBy_get s x n hn i
  rw [h, if_pos ⟨hi, hb⟩] at this
  omega
/-- One step of the search: on to better places, or at its end. -/
theorem next_step (c : Cas) (hv : Valid c) (ws x : List Int) (z : Nat → Int) (hx5 : x.length = 5) (hx : Ag (sysC c ws) (fun i => x.getD i 0)) (hz : Mn (sysC c ws) z) (hl : ∀ y, Mn (sysC c ws) y → ∀ i, i < c.shs.length → z i ≤ y i)
    (hle : ∀ i, i < c.shs.length → z i ≤ x.getD i 0) :
    (nextC c ws x = x ∧ ∀ i, i < c.shs.length → x.getD i 0 = z i) ∨
    (nextC c ws x ≠ x ∧ (∃ s, s < 2 ^ c.shs.length ∧ 0 < s ∧ nextC c ws x = lowBy s x c.shs.length) ∧ Ag (sysC c ws) (fun i => (nextC c ws x).getD i 0) ∧ ∀ i, i < c.shs.length → z i ≤ (nextC c ws x).getD i 0) := by
  have n5 := hv.n5
  have hf := sys_fine c hv ws
  have hmx : ∀ s i, i < c.shs.length → (lowBy s x c.shs.length).getD i 0 ≤ (c.shs.getD i default).most := by
    intro s i hi
    have h1 := (hx.bx i hi).2
    rw [lowBy_get _ _ _ (by omega)]
    simp only [sysC] at h1
    split <;> omega
  have pz := price_in c hv ws x fun i hi => (hx.bx i hi).2
  have px : priceC c ws x = costF (sysC c ws) (fun i => x.getD i 0) ∧ priceC c ws x ≤ dearC c := by
    rcases pz with ⟨_, h⟩ | ⟨h, _⟩
    · exact h
    · exact absurd hx h
  rcases bestS_first (priceC c ws) z5 (belowL c.shs.length x) with ⟨h, _⟩ | ⟨l1, r, l2, he, hr, h1, h2⟩
  · unfold belowL at h
    rw [setsL_last] at h
    simp at h
  · have hnext : nextC c ws x = r := by unfold nextC; rw [hr]
    have hmem : ∀ s, s < 2 ^ c.shs.length → priceC c ws r ≤ priceC c ws (lowBy s x c.shs.length) := by
      intro s hs
      have : lowBy s x c.shs.length ∈ belowL c.shs.length x := List.mem_map.2 ⟨s, (setsL_mem _ _).2 hs, rfl⟩
      rw [he] at this
      rcases List.mem_append.1 this with h | h
      · have := h1 _ h; omega
      · rcases List.mem_cons.1 h with h | h
        · rw [h]; exact Int.le_refl _
        · exact h2 _ h
    have hrs : ∃ s, s < 2 ^ c.shs.length ∧ r = lowBy s x c.shs.length := by
      have : r ∈ belowL c.shs.length x := by rw [he]; simp
      obtain ⟨s, hs, e⟩ := List.mem_map.1 this
      exact ⟨s, (setsL_mem _ _).1 hs, e.symm⟩
    have hrx : priceC c ws r ≤ priceC c ws x := by
      have := hmem 0 (Nat.pow_pos (by omega))
      rwa [lowBy_zero] at this
    obtain ⟨s, hs, hrr⟩ := hrs
    have hrA : Ag (sysC c ws) (fun i => r.getD i 0) ∧ priceC c ws r = costF (sysC c ws) (fun i => r.getD i 0) := by
      rcases price_in c hv ws r (by rw [hrr]; exact hmx s) with ⟨h, h', _⟩ | ⟨_, h⟩
      · exact ⟨h, h'⟩
      · omega
    by_cases hd : ∃ i, i < c.shs.length ∧ z i < x.getD i 0
    · right
      obtain ⟨D, hD, ⟨m, hm, hmD⟩, aU, cU⟩ := Mn.step hf hx hz hle hd
      obtain ⟨u, hu, hub⟩ := set_of (fun i => decide (x.getD i 0 - z i = D)) c.shs.length
      have hue : ∀ i, i < c.shs.length → (lowBy u x c.shs.length).getD i 0 = if x.getD i 0 - z i = D then x.getD i 0 - 1 else x.getD i 0 := by
        intro i hi
        rw [lowBy_get _ _ _ (by omega), hub i hi]
        simp [hi]
      have hu0 : 0 < u := by
        rcases Nat.eq_zero_or_pos u with h | h
        · have := hub m hm
          rw [h] at this
          simp at this
          exact absurd hmD this
        · exact h
      have pu : priceC c ws (lowBy u x c.shs.length) ≤ priceC c ws x := by
        have aL : Ag (sysC c ws) (fun i => (lowBy u x c.shs.length).getD i 0) := aU.congr hf fun i hi => (hue i hi).symm
        rcases price_in c hv ws (lowBy u x c.shs.length) (hmx u) with ⟨_, h', _⟩ | ⟨h, _⟩
        · rw [h', px.1, costF_congr hue]
          exact cU
        · exact absurd aL h
      have hne : r ≠ x := by
        intro e
        subst e
        -- x itself stands last: what stands before it is worse
        have hlast : belowL c.shs.length r = ((setsL c.shs.length).dropLast.map fun s => lowBy s r c.shs.length) ++ [r] := by
          unfold belowL
          conv => lhs; rw [setsL_last]
          rw [List.map_append]
          simp [lowBy_zero]
        have hin : lowBy u r c.shs.length ∈ (setsL c.shs.length).dropLast.map fun s => lowBy s r c.shs.length := by
          have : u ∈ setsL c.shs.length := (setsL_mem _ _).2 hu
          rw [setsL_last] at this
          rcases List.mem_append.1 this with h | h
          · exact List.mem_map.2 ⟨u, h, rfl⟩
          · rw [List.mem_singleton] at h; omega
        have hni : ¬ r ∈ (setsL c.shs.length).dropLast.map fun s => lowBy s r c.shs.length := by
          intro h
          obtain ⟨t, ht, e⟩ := List.mem_map.1 h
          have h0 := setsL_pos ht
          exact lowBy_ne h0 ((setsL_mem _ _).1 (List.dropLast_subset _ ht)) r (by omega) e
        rw [hlast] at he
        have : l1 = (setsL c.shs.length).dropLast.map fun s => lowBy s r c.shs.length := by
          cases l2 with
          | nil => exact ((List.append_inj' he rfl).1).symm
          | cons y l2 =>
            exfalso
            have hl : (l1 ++ r :: y :: l2).dropLast = l1 ++ r :: (y :: l2).dropLast := by
              rw [List.dropLast_append_of_ne_nil (by simp)]
              rfl
            have h3 := congrArg List.dropLast he
            rw [hl, List.dropLast_concat] at h3
            apply hni
            rw [h3]
            simp
        have := h1 _ (this ▸ hin)
        omega
      have h0 : 0 < s := by
        rcases Nat.eq_zero_or_pos s with h | h
        · subst h; rw [lowBy_zero] at hrr; exact absurd hrr hne
        · exact h
      rw [hnext]
      refine ⟨hne, ⟨s, hs, h0, hrr⟩, hrA.1, ?_⟩
      refine Mn.keep hf hx hrA.1 hz hl hle ?_
      -- what is not below the least ones is next to x, too
      obtain ⟨t, ht, htb⟩ := set_of (fun i => s.testBit i && decide (z i < x.getD i 0)) c.shs.length
      have hte : ∀ i, i < c.shs.length → (lowBy t x c.shs.length).getD i 0 = max (r.getD i 0) (z i) := by
        intro i hi
        have := hle i hi
        rw [hrr, lowBy_get _ _ _ (by omega), lowBy_get _ _ _ (by omega), htb i hi]
        generalize x.getD i 0 = xi at *
        cases hsb : s.testBit i with
        | false => simp; omega
        | true =>
          by_cases hz2 : z i < xi
          · simp [hi, hz2]; omega
          · simp [hi, hz2]; omega
      have aT : Ag (sysC c ws) (fun i => (lowBy t x c.shs.length).getD i 0) := (hrA.1.max hz.1).congr hf fun i hi => (hte i hi).symm
      have h5 := hmem t ht
      rcases price_in c hv ws (lowBy t x c.shs.length) (hmx t) with ⟨_, h', _⟩ | ⟨h, _⟩
      · have e := costF_congr (s := sysC c ws) (x := fun i => (lowBy t x c.shs.length).getD i 0) (y := fun i => max (r.getD i 0) (z i)) hte
        rw [h', hrA.2, e] at h5
        exact h5
      · exact absurd aT h
    · left
      have heq : ∀ i, i < c.shs.length → x.getD i 0 = z i := by
        intro i hi
        have a := hle i hi
        have b : ¬ z i < x.getD i 0 := fun h => hd ⟨i, hi, h⟩
        omega
      refine ⟨?_, heq⟩
      rw [hnext]
      apply Classical.byContradiction
      intro hne
      have h0 : 0 < s := by
        rcases Nat.eq_zero_or_pos s with h | h
        · subst h; rw [lowBy_zero] at hrr; exact absurd hrr hne
        · exact h
      have hM : Mn (sysC c ws) (fun i => r.getD i 0) := ⟨hrA.1, fun y hy => by
        have a := hz.2 y hy
        have b : costF (sysC c ws) (fun i => x.getD i 0) = costF (sysC c ws) z := costF_congr heq
        omega⟩
      have hb : ∃ i, i < c.shs.length ∧ s.testBit i = true := by
        apply Classical.byContradiction
        intro hno
        apply hne
        rw [hrr]
        apply List.ext_getElem (by rw [lowBy_length])
        intro i h3 h4
        have e1 : (lowBy s x c.shs.length).getD i 0 = (lowBy s x c.shs.length)[i] := by simp [List.getD_eq_getElem?_getD, h3]
        have e2 : x.getD i 0 = x[i] := by simp [List.getD_eq_getElem?_getD, h4]
        rw [← e1, ← e2, lowBy_get _ _ _ (by omega), if_neg (fun h => hno ⟨i, h.1, h.2⟩)]
      obtain ⟨i, hi, hb⟩ := hb
      have a := hl _ hM i hi
      have b := heq i hi
      rw [hrr, lowBy_get _ _ _ (by omega), if_pos ⟨hi, hb⟩] at a
      omega
/-- The search ends at the least ones of the cheapest changes. -/
theorem cheap_is (c : Cas) (hv : Valid c) (ws : List Int) (z : Nat → Int) (hz : Mn (sysC c ws) z) (hl : ∀ y, Mn (sysC c ws) y → ∀ i, i < c.shs.length → z i ≤ y i) : ∀ (g : Nat) (x : List Int), x.length = 5 → Ag (sysC c ws) (fun i => x.getD i 0) →
    (∀ i, i < c.shs.length → z i ≤ x.getD i 0) → sumR (fun i => x.getD i 0) c.shs.length - sumR z c.shs.length < g →
    ∃ r, cheapGo c ws g x = some r ∧ r.length = 5 ∧ (∀ i, i < c.shs.length → r.getD i 0 = z i) ∧ ∀ i, c.shs.length ≤ i → r.getD i 0 = x.getD i 0 := by
  have n5 := hv.n5
  intro g
  induction g with
  | zero =>
    intro x _ _ hle h
    have := sumR_le hle
    omega
  | succ g ih =>
    intro x hx hA hle h
    simp only [cheapGo]
    rcases next_step c hv ws x z hx hA hz hl hle with ⟨he, heq⟩ | ⟨hne, ⟨s, hs, h0, hr⟩, hA', hle'⟩
    · rw [if_pos he]
      exact ⟨x, rfl, hx, heq, fun _ _ => rfl⟩
    · rw [if_neg hne]
      have hlow : ∀ i, (nextC c ws x).getD i 0 ≤ x.getD i 0 := by
        intro i
        rw [hr, lowBy_get _ _ _ (by omega)]
        split <;> omega
      have hlt : sumR (fun i => (nextC c ws x).getD i 0) c.shs.length < sumR (fun i => x.getD i 0) c.shs.length := by
        refine sumR_lt (fun i _ => hlow i) ?_
        apply Classical.byContradiction
        intro hno
        apply hne
        apply List.ext_getElem (by rw [hr, lowBy_length])
        intro i h3 h4
        have e1 : (nextC c ws x).getD i 0 = (nextC c ws x)[i] := by simp [List.getD_eq_getElem?_getD, h3]
        have e2 : x.getD i 0 = x[i] := by simp [List.getD_eq_getElem?_getD, h4]
        rw [← e1, ← e2]
        rcases Nat.lt_or_ge i c.shs.length with hi | hi
        · have a := hlow i
          have b : ¬ (nextC c ws x).getD i 0 < x.getD i 0 := fun h => hno ⟨i, hi, h⟩
          omega
        · rw [hr, lowBy_get _ _ _ (by omega), if_neg (fun h => by omega)]
      obtain ⟨r, h1, h2, h3, h4⟩ := ih _ (by rw [hr, lowBy_length]; exact hx) hA' hle' (by omega)
      refine ⟨r, h1, h2, h3, fun i hi => ?_⟩
      rw [h4 i hi, hr, lowBy_get _ _ _ (by omega), if_neg (fun h => by omega)]
end Go.Proofs.Ytojdocomkhihoaa
