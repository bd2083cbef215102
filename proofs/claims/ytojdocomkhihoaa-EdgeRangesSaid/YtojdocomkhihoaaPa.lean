/- Cases of edges as systems of bounds of differences: highest finds the greatest changes that agree, or none do. No program is named here. -/
import Derived.Test.YtojdocomkhihoaaFe1
set_option linter.unusedSimpArgs false
set_option linter.unusedVariables false
namespace Go.Proofs.Ytojdocomkhihoaa
open Go Go.RowKit Ed

/-! ## Systems of differences between bounds, and what changes cost -/
def sumR (f : Nat → Int) : Nat → Int
  | 0 => 0
  | k + 1 => sumR f k + f k
theorem sumR_le {f g : Nat → Int} : ∀ {n : Nat}, (∀ i, i < n → f i ≤ g i) → sumR f n ≤ sumR g n := by
  intro n
  induction n with
  | zero => intro _; exact Int.le_refl _
  | succ n ih =>
    intro h
    have h1 := ih fun i hi => h i (by omega)
    have h2 := h n (by omega)
    simp only [sumR]
    omega
theorem sumR_lt {f g : Nat → Int} : ∀ {n : Nat}, (∀ i, i < n → f i ≤ g i) → (∃ i, i < n ∧ f i < g i) → sumR f n < sumR g n := by
  intro n
  induction n with
  | zero => rintro _ ⟨i, hi, _⟩; omega
  | succ n ih =>
    rintro h ⟨i, hi, hlt⟩
    have h2 := h n (by omega)
    have h3 := sumR_le (n := n) fun i hi => h i (by omega)
    simp only [sumR]
    by_cases e : i = n
    · subst e; omega
    · have h1 := ih (fun i hi => h i (by omega)) ⟨i, by omega, hlt⟩
      omega
theorem sumR_congr {f g : Nat → Int} {n : Nat} (h : ∀ i, i < n → f i = g i) : sumR f n = sumR g n := by
  have h1 := sumR_le (f := f) (g := g) (n := n) fun i hi => by have := h i hi; omega
  have h2 := sumR_le (f := g) (g := f) (n := n) fun i hi => by have := h i hi; omega
  omega
theorem sumR_add (f g : Nat → Int) : ∀ n, sumR (fun i => f i + g i) n = sumR f n + sumR g n := by
  intro n
  induction n with
  | zero => rfl
  | succ n ih => simp only [sumR, ih]; omega
theorem sumR_const (c : Int) : ∀ n : Nat, sumR (fun _ => c) n = c * n := by
  intro n
  induction n with
  | zero => simp [sumR]
  | succ n ih =>
    simp only [sumR, ih]
    push_cast
    rw [Int.mul_add]
    omega
/-- What is closed under the lesser one of two, and bounded below, has a least one. -/
theorem least_of (n : Nat) (lb : Nat → Int) (P : (Nat → Int) → Prop) (hmin : ∀ x y, P x → P y → P (fun i => min (x i) (y i))) (hlb : ∀ x, P x → ∀ i, i < n → lb i ≤ x i) (hne : ∃ x, P x) :
    ∃ z, P z ∧ ∀ y, P y → ∀ i, i < n → z i ≤ y i := by
  have key : ∀ (m : Nat) (x : Nat → Int), P x → sumR x n - sumR lb n ≤ m → ∃ z, P z ∧ ∀ y, P y → ∀ i, i < n → z i ≤ y i := by
    intro m
    induction m with
    | zero =>
      intro x hx hs
      refine ⟨x, hx, fun y hy i hi => ?_⟩
      rcases Int.lt_or_le (y i) (x i) with h | h
      · have h1 := hlb _ (hmin x y hx hy)
        have h2 := sumR_le h1
        have h3 : sumR (fun i => min (x i) (y i)) n < sumR x n := sumR_lt (fun j _ => by omega) ⟨i, hi, by omega⟩
        omega
      · exact h
    | succ m ih =>
      intro x hx hs
      by_cases hall : ∀ y, P y → ∀ i, i < n → x i ≤ y i
      · exact ⟨x, hx, hall⟩
      · have : ∃ y, P y ∧ ∃ i, i < n ∧ y i < x i := by
          apply Classical.byContradiction
          intro hno
          apply hall
          intro y hy i hi
          rcases Int.lt_or_le (y i) (x i) with h | h
          · exact absurd ⟨y, hy, i, hi, h⟩ hno
          · exact h
        obtain ⟨y, hy, i, hi, hlt⟩ := this
        have h3 : sumR (fun i => min (x i) (y i)) n < sumR x n := sumR_lt (fun j _ => by omega) ⟨i, hi, by omega⟩
        exact ih _ (hmin x y hx hy) (by omega)
  obtain ⟨x, hx⟩ := hne
  exact key (sumR x n - sumR lb n).toNat x hx (by omega)
theorem greatest_of (n : Nat) (ub : Nat → Int) (P : (Nat → Int) → Prop) (hmax : ∀ x y, P x → P y → P (fun i => max (x i) (y i))) (hub : ∀ x, P x → ∀ i, i < n → x i ≤ ub i) (hne : ∃ x, P x) :
    ∃ z, P z ∧ ∀ y, P y → ∀ i, i < n → y i ≤ z i := by
  obtain ⟨z, hz, hl⟩ := least_of n (fun i => -ub i) (fun x => P (fun i => -x i))
    (fun x y hx hy => by
      have := hmax _ _ hx hy
      have e : (fun i => -min (x i) (y i)) = (fun i => max (-x i) (-y i)) := by funext i; omega
      rw [e]; exact this)
    (fun x hx i hi => by have := hub _ hx i hi; omega)
    (by obtain ⟨x, hx⟩ := hne; exact ⟨fun i => -x i, by simpa using hx⟩)
  refine ⟨_, hz, fun y hy i hi => ?_⟩
  have := hl (fun i => -y i) (by simpa using hy) i hi
  omega
/-- An edge of a system, and what it wants. -/
structure Ar where
  a : Nat
  b : Nat
  lo : Int
  hi : Int
structure Sys where
  n : Nat
  most : Nat → Int
  wt : Nat → Int
  es : List Ar
/-- Changes that agree. -/
structure Ag (s : Sys) (x : Nat → Int) : Prop where
  bx : ∀ i, i < s.n → -s.most i ≤ x i ∧ x i ≤ s.most i
  ed : ∀ e, e ∈ s.es → e.lo ≤ x e.a - x e.b ∧ x e.a - x e.b ≤ e.hi
structure Fine (s : Sys) : Prop where
  n1 : 1 ≤ s.n
  m0 : ∀ i, i < s.n → 0 ≤ s.most i
  w0 : ∀ i, i < s.n → 0 ≤ s.wt i
  ea : ∀ e, e ∈ s.es → e.a < s.n
  eb : ∀ e, e ∈ s.es → e.b < s.n
  ne : ∀ e, e ∈ s.es → e.a ≠ e.b
theorem Ag.min {s : Sys} {x y : Nat → Int} (hx : Ag s x) (hy : Ag s y) : Ag s (fun i => min (x i) (y i)) := by
  refine ⟨fun i hi => ?_, fun e he => ?_⟩
  · have := hx.bx i hi; have := hy.bx i hi; omega
  · have := hx.ed e he; have := hy.ed e he; omega
theorem Ag.max {s : Sys} {x y : Nat → Int} (hx : Ag s x) (hy : Ag s y) : Ag s (fun i => max (x i) (y i)) := by
  refine ⟨fun i hi => ?_, fun e he => ?_⟩
  · have := hx.bx i hi; have := hy.bx i hi; omega
  · have := hx.ed e he; have := hy.ed e he; omega
theorem Ag.congr {s : Sys} (hf : Fine s) {x y : Nat → Int} (hx : Ag s x) (h : ∀ i, i < s.n → x i = y i) : Ag s y := by
  refine ⟨fun i hi => ?_, fun e he => ?_⟩
  · rw [← h i hi]; exact hx.bx i hi
  · rw [← h _ (hf.ea e he), ← h _ (hf.eb e he)]; exact hx.ed e he
/-- The greatest changes that agree. -/
theorem Ag.top {s : Sys} (h : ∃ x, Ag s x) : ∃ z, Ag s z ∧ ∀ y, Ag s y → ∀ i, i < s.n → y i ≤ z i :=
  greatest_of s.n s.most (Ag s) (fun _ _ hx hy => hx.max hy) (fun _ hx i hi => (hx.bx i hi).2) h
/-- The number of sheets that are where they will be. -/
def cntR (p : Nat → Bool) (n : Nat) : Int := sumR (fun i => if p i then 1 else 0) n
theorem cntR_le (p : Nat → Bool) (n : Nat) : cntR p n ≤ n := by
  have := sumR_le (f := fun i => if p i then 1 else 0) (g := fun _ => 1) (n := n) (fun i _ => by split <;> omega)
  rw [sumR_const] at this
  unfold cntR
  omega
theorem cntR_all {p : Nat → Bool} {n : Nat} (h : (n : Int) ≤ cntR p n) : ∀ i, i < n → p i = true := by
  intro i hi
  cases hp : p i with
  | true => rfl
  | false =>
    have := sumR_lt (f := fun i => if p i then 1 else 0) (g := fun _ => 1) (n := n) (fun i _ => by split <;> omega) ⟨i, hi, by rw [hp]; simp⟩
    rw [sumR_const] at this
    unfold cntR at h
    omega
/-- A try: what is known of one step along all edges. -/
structure Try (s : Sys) (x y : Nat → Int) : Prop where
  le : ∀ i, i < s.n → y i ≤ x i
  up : ∀ e, e ∈ s.es → y e.a ≤ x e.b + e.hi
  dn : ∀ e, e ∈ s.es → y e.b ≤ x e.a - e.lo
  keep : ∀ z, Ag s z → (∀ i, i < s.n → z i ≤ x i) → ∀ i, i < s.n → z i ≤ y i
/-- What a try leaves is agreed, if it leaves all. -/
theorem Try.fix {s : Sys} (hf : Fine s) {x : Nat → Int} (h : Try s x x) (hm : ∀ i, i < s.n → -s.most i ≤ x i ∧ x i ≤ s.most i) : Ag s x :=
  ⟨hm, fun e he => by have := h.up e he; have := h.dn e he; omega⟩
/-- A try settles one more sheet, as long as not all are. -/
theorem Try.more {s : Sys} (hf : Fine s) {x y z : Nat → Int} (h : Try s x y) (hz : Ag s z) (hg : ∀ y, Ag s y → ∀ i, i < s.n → y i ≤ z i) (hx : ∀ i, i < s.n → z i ≤ x i) (hm : ∀ i, i < s.n → x i ≤ s.most i)
    (hno : ∃ i, i < s.n ∧ z i < x i) : cntR (fun i => decide (x i = z i)) s.n + 1 ≤ cntR (fun i => decide (y i = z i)) s.n := by
  have hyz := h.keep z hz hx
  -- raise all that are not settled
  have hnot : ¬ Ag s (fun i => if z i < x i then z i + 1 else z i) := by
    intro ha
    obtain ⟨i, hi, hlt⟩ := hno
    have := hg _ ha i hi
    simp only [if_pos hlt] at this
    omega
  have hsome : ∃ i, i < s.n ∧ z i < x i ∧ y i = z i := by
    apply Classical.byContradiction
    intro hc
    apply hnot
    refine ⟨fun i hi => ?_, fun e he => ?_⟩
    · have := hz.bx i hi
      have := hm i hi
      split <;> omega
    · have h1 := hz.ed e he
      have ha := hf.ea e he
      have hb := hf.eb e he
      have h2 := h.up e he
      have h3 := h.dn e he
      have h4 := hyz e.a ha
      have h5 := hyz e.b hb
      have h6 := hx e.a ha
      have h7 := hx e.b hb
      have ca : z e.a < x e.a → y e.a ≠ z e.a := fun h1 h2 => hc ⟨_, ha, h1, h2⟩
      have cb : z e.b < x e.b → y e.b ≠ z e.b := fun h1 h2 => hc ⟨_, hb, h1, h2⟩
      split <;> split <;> omega
  obtain ⟨i, hi, hlt, he⟩ := hsome
  have := sumR_lt (f := fun i => if decide (x i = z i) = true then 1 else 0) (g := fun i => if decide (y i = z i) = true then 1 else 0) (n := s.n) (fun j hj => by
    have h1 := h.le j hj
    have h2 := hyz j hj
    simp only [decide_eq_true_eq]
    by_cases e : x j = z j
    · rw [if_pos e, if_pos (by omega)]; omega
    · rw [if_neg e]; split <;> omega) ⟨i, hi, by simp only [decide_eq_true_eq]; rw [if_neg (by omega), if_pos he]; omega⟩
  exact Int.add_one_le_of_lt this
/-- The greatest changes meet some Most. -/
theorem top_meets {s : Sys} (hf : Fine s) {z : Nat → Int} (hz : Ag s z) (hg : ∀ y, Ag s y → ∀ i, i < s.n → y i ≤ z i) : ∃ i, i < s.n ∧ z i = s.most i := by
  apply Classical.byContradiction
  intro hc
  have : Ag s (fun i => z i + 1) := by
    refine ⟨fun i hi => ?_, fun e he => ?_⟩
    · have := hz.bx i hi
      have : z i ≠ s.most i := fun h => hc ⟨i, hi, h⟩
      omega
    · have := hz.ed e he
      omega
  have h9 := hg _ this 0 hf.n1
  omega
/-! ## The case as a system -/
def sysC (c : Cas) (ws : List Int) : Sys where
  n := c.shs.length
  most := fun i => (c.shs.getD i default).most
  wt := fun i => (c.shs.getD i default).wt
  es := (List.range c.eds.length).map fun i => ⟨(c.eds.getD i default).a.toNat, (c.eds.getD i default).b.toNat, (wL ws i).1, (wL ws i).2⟩
theorem getD_lt {α : Type} [Inhabited α] (l : List α) (i : Nat) (h : i < l.length) : l.getD i default = l[i] := by simp [List.getD_eq_getElem?_getD, h]
theorem sys_fine (c : Cas) (hv : Valid c) (ws : List Int) : Fine (sysC c ws) := by
  refine ⟨hv.n1, fun i hi => ?_, fun i hi => ?_, fun e he => ?_, fun e he => ?_, fun e he => ?_⟩
  · simp only [sysC] at hi ⊢
    rw [getD_lt _ _ hi]
    exact (hv.sh _ (List.getElem_mem hi)).m0
  · simp only [sysC] at hi ⊢
    rw [getD_lt _ _ hi]
    exact (hv.sh _ (List.getElem_mem hi)).w0
  all_goals
    simp only [sysC, List.mem_map, List.mem_range] at he ⊢
    obtain ⟨i, hi, rfl⟩ := he
    have h := hv.ed _ (List.getElem_mem hi)
    have h1 := h.a0
    have h2 := h.an
    have h3 := h.b0
    have h4 := h.bn
    have h5 := h.ne
    simp only [getD_lt _ _ hi]
    omega
theorem low_try (c : Cas) (hv : Valid c) (ws x : List Int) (hx : x.length = 5) : Try (sysC c ws) (fun i => x.getD i 0) (fun i => (lowTo c.eds ws x c.eds.length).getD i 0) := by
  have n5 := hv.n5
  have hE : ∀ k, k < c.eds.length → (c.eds.getD k default).a.toNat < 5 ∧ (c.eds.getD k default).b.toNat < 5 ∧ (c.eds.getD k default).a.toNat ≠ (c.eds.getD k default).b.toNat := by
    intro k hk
    have h := hv.ed _ (List.getElem_mem hk)
    have h1 := h.a0
    have h2 := h.an
    have h3 := h.b0
    have h4 := h.bn
    have h5 := h.ne
    rw [getD_lt _ _ hk]
    omega
  have hstep : ∀ k, k < c.eds.length → (∀ i, (lowTo c.eds ws x (k + 1)).getD i 0 ≤ (lowTo c.eds ws x k).getD i 0) ∧
      (lowTo c.eds ws x (k + 1)).getD (c.eds.getD k default).a.toNat 0 ≤ (lowTo c.eds ws x k).getD (c.eds.getD k default).b.toNat 0 + (wL ws k).2 ∧
      (lowTo c.eds ws x (k + 1)).getD (c.eds.getD k default).b.toNat 0 ≤ (lowTo c.eds ws x k).getD (c.eds.getD k default).a.toNat 0 - (wL ws k).1 ∧
      (∀ z : Nat → Int, ((wL ws k).1 ≤ z (c.eds.getD k default).a.toNat - z (c.eds.getD k default).b.toNat ∧ z (c.eds.getD k default).a.toNat - z (c.eds.getD k default).b.toNat ≤ (wL ws k).2) → (∀ i, i < c.shs.length → z i ≤ (lowTo c.eds ws x k).getD i 0) → (c.eds.getD k default).a.toNat < c.shs.length → (c.eds.getD k default).b.toNat < c.shs.length → ∀ i, i < c.shs.length → z i ≤ (lowTo c.eds ws x (k + 1)).getD i 0) := by
    intro k hk
    obtain ⟨ha, hb, hne⟩ := hE k hk
    have hl : (lowTo c.eds ws x k).length = 5 := by rw [lowTo_length]; exact hx
    show (∀ i, (lowStep _ _ _ _).getD i 0 ≤ _) ∧ (lowStep _ _ _ _).getD _ 0 ≤ _ ∧ (lowStep _ _ _ _).getD _ 0 ≤ _ ∧ (∀ z : Nat → Int, _ → _ → _ → _ → ∀ i, i < _ → z i ≤ (lowStep _ _ _ _).getD i 0)
    generalize lowTo c.eds ws x k = y at *
    generalize (c.eds.getD k default).a.toNat = a at *
    generalize (c.eds.getD k default).b.toNat = b at *
    generalize wL ws k = s at *
    have e : ∀ i, (lowStep a b s y).getD i 0 = if i = b then min (y.getD b 0) (min (y.getD a 0) (y.getD b 0 + s.2) - s.1) else if i = a then min (y.getD a 0) (y.getD b 0 + s.2) else y.getD i 0 := by
      intro i
      unfold lowStep
      simp only [getD_set, List.length_set, hl]
      by_cases h1 : i = b
      · subst h1
        simp [ha, hb, hne]
      · rw [if_neg (fun h => h1 h.1.symm), if_neg h1]
        by_cases h2 : i = a
        · subst h2
          rw [if_pos ⟨rfl, ha⟩, if_pos rfl]
        · rw [if_neg (fun h => h2 h.1.symm), if_neg h2]
    refine ⟨fun i => ?_, ?_, ?_, fun z hz hzy haS hbS i hi => ?_⟩
    · rw [e i]
      split
      · rename_i h; subst h; omega
      · split
        · rename_i h; subst h; omega
        · exact Int.le_refl _
    · rw [e a, if_neg hne, if_pos rfl]; omega
    · rw [e b, if_pos rfl]; omega
    · have h1 := hzy a haS
      have h2 := hzy b hbS
      rw [e i]
      split
      · rename_i h; subst h; omega
      · split
        · rename_i h; subst h; omega
        · exact hzy i hi
  have hmono : ∀ k, k ≤ c.eds.length → ∀ j, j ≤ k → ∀ i, (lowTo c.eds ws x k).getD i 0 ≤ (lowTo c.eds ws x j).getD i 0 := by
    intro k
    induction k with
    | zero => intro _ j hj i; rw [show j = 0 by omega]; exact Int.le_refl _
    | succ k ih =>
      intro hk j hj i
      rcases Nat.lt_or_ge k j with h | h
      · rw [show j = k + 1 by omega]; exact Int.le_refl _
      · exact Int.le_trans ((hstep k (by omega)).1 i) (ih (by omega) j h i)
  have hfine := sys_fine c hv ws
  refine ⟨fun i _ => hmono _ (Nat.le_refl _) 0 (Nat.zero_le _) i, fun e he => ?_, fun e he => ?_, fun z hz hzx => ?_⟩
  · simp only [sysC, List.mem_map, List.mem_range] at he
    obtain ⟨k, hk, rfl⟩ := he
    simp only
    have h1 := (hstep k hk).2.1
    have h2 := hmono _ (Nat.le_refl _) (k + 1) (by omega) (c.eds.getD k default).a.toNat
    have h3 := hmono k (by omega) 0 (Nat.zero_le _) (c.eds.getD k default).b.toNat
    simp only [lowTo] at h3
    omega
  · simp only [sysC, List.mem_map, List.mem_range] at he
    obtain ⟨k, hk, rfl⟩ := he
    simp only
    have h1 := (hstep k hk).2.2.1
    have h2 := hmono _ (Nat.le_refl _) (k + 1) (by omega) (c.eds.getD k default).b.toNat
    have h3 := hmono k (by omega) 0 (Nat.zero_le _) (c.eds.getD k default).a.toNat
    simp only [lowTo] at h3
    omega
  · have key : ∀ k, k ≤ c.eds.length → ∀ i, i < c.shs.length → z i ≤ (lowTo c.eds ws x k).getD i 0 := by
      intro k
      induction k with
      | zero => intro _ i hi; exact hzx i hi
      | succ k ih =>
        intro hk
        have hm : (⟨(c.eds.getD k default).a.toNat, (c.eds.getD k default).b.toNat, (wL ws k).1, (wL ws k).2⟩ : Ar) ∈ (sysC c ws).es := by
          simp only [sysC, List.mem_map, List.mem_range]
          exact ⟨k, by omega, rfl⟩
        exact (hstep k (by omega)).2.2.2 z (hz.ed _ hm) (ih (by omega)) (hfine.ea _ hm) (hfine.eb _ hm)
    exact key _ (Nat.le_refl _)
theorem lowK_yes {l : List Sht} {x : List Int} {n : Nat} (h : lowK l x n = true) : ∃ i, i < n ∧ x.getD i 0 < -(l.getD i default).most := by
  unfold lowK at h
  rw [List.any_eq_true] at h
  obtain ⟨i, hi, h⟩ := h
  exact ⟨i, List.mem_range.1 hi, by simpa using h⟩
/-- What highest finds agrees. -/
theorem highGo_true (c : Cas) (hv : Valid c) (ws : List Int) : ∀ (g : Nat) (x r : List Int), x.length = 5 → (∀ i, i < c.shs.length → -(c.shs.getD i default).most ≤ x.getD i 0 ∧ x.getD i 0 ≤ (c.shs.getD i default).most) → highGo c ws g x = (r, true) →
    r.length = 5 ∧ Ag (sysC c ws) (fun i => r.getD i 0) ∧ ∀ y, Ag (sysC c ws) y → (∀ i, i < c.shs.length → y i ≤ x.getD i 0) → ∀ i, i < c.shs.length → y i ≤ r.getD i 0 := by
  intro g
  induction g with
  | zero => intro x r _ _ h; simp [highGo] at h
  | succ g ih =>
    intro x r hx hm h
    have ht := low_try c hv ws x hx
    simp only [highGo] at h
    split at h
    · rename_i he
      simp only [Prod.mk.injEq, and_true] at h
      subst h
      rw [he] at ht
      exact ⟨hx, ht.fix (sys_fine c hv ws) hm, fun y _ hy => hy⟩
    · split at h
      · simp at h
      · rename_i hl
        simp only [Bool.not_eq_true] at hl
        have hm' : ∀ i, i < c.shs.length → -(c.shs.getD i default).most ≤ (lowTo c.eds ws x c.eds.length).getD i 0 ∧ (lowTo c.eds ws x c.eds.length).getD i 0 ≤ (c.shs.getD i default).most := by
          intro i hi
          have h1 := ht.le i hi
          have h2 := hm i hi
          exact ⟨lowK_no hl i hi, by omega⟩
        obtain ⟨h1, h2, h3⟩ := ih _ r (by rw [lowTo_length]; exact hx) hm' h
        exact ⟨h1, h2, fun y hy hyx => h3 y hy (ht.keep y hy hyx)⟩
/-- If some changes agree, highest finds the greatest. -/
theorem highGo_finds (c : Cas) (hv : Valid c) (ws : List Int) (z : Nat → Int) (hz : Ag (sysC c ws) z) (hg : ∀ y, Ag (sysC c ws) y → ∀ i, i < c.shs.length → y i ≤ z i) : ∀ (g : Nat) (x : List Int), x.length = 5 →
    (∀ i, i < c.shs.length → z i ≤ x.getD i 0 ∧ x.getD i 0 ≤ (c.shs.getD i default).most) → (c.shs.length : Int) + 1 ≤ cntR (fun i => decide (x.getD i 0 = z i)) c.shs.length + g → (highGo c ws g x).2 = true := by
  intro g
  induction g with
  | zero =>
    intro x _ _ h
    have := cntR_le (fun i => decide (x.getD i 0 = z i)) c.shs.length
    omega
  | succ g ih =>
    intro x hx hm h
    have ht := low_try c hv ws x hx
    simp only [highGo]
    split
    · rfl
    · rename_i hne
      have hk := ht.keep z hz fun i hi => (hm i hi).1
      split
      · rename_i hl
        obtain ⟨i, hi, hlt⟩ := lowK_yes hl
        have h1 := hk i hi
        have h2 := (hz.bx i hi).1
        simp only [sysC] at h1 h2
        omega
      · have hle := ht.le
        refine ih _ (by rw [lowTo_length]; exact hx) (fun i hi => ⟨hk i hi, Int.le_trans (hle i hi) (hm i hi).2⟩) ?_
        by_cases hno : ∃ i, i < c.shs.length ∧ z i < x.getD i 0
        · have := ht.more (sys_fine c hv ws) hz hg (fun i hi => (hm i hi).1) (fun i hi => (hm i hi).2) hno
          simp only [sysC] at this
          push_cast at h
          omega
        · exfalso
          apply hne
          have heq : ∀ i, i < c.shs.length → x.getD i 0 = z i := by
            intro i hi
            have h1 := (hm i hi).1
            have h2 : ¬ z i < x.getD i 0 := fun h => hno ⟨i, hi, h⟩
            omega
          apply List.ext_getElem (by rw [lowTo_length])
          intro i h1 h2
          have e1 : (lowTo c.eds ws x c.eds.length).getD i 0 = (lowTo c.eds ws x c.eds.length)[i] := by simp [List.getD_eq_getElem?_getD, h1]
          have e2 : x.getD i 0 = x[i] := by simp [List.getD_eq_getElem?_getD, h2]
          rw [← e1, ← e2]
          rcases Nat.lt_or_ge i c.shs.length with hi | hi
          · have h3 := hk i hi
            have h4 := hle i hi
            have h5 := heq i hi
            omega
          · exact lowTo_out c.eds ws x c.shs.length hv.ed i hi _ (Nat.le_refl _)
theorem mostTo_get (l : List Sht) (i : Nat) (hi : i < l.length) (h5 : l.length ≤ 5) : (mostTo l l.length).getD i 0 = (l.getD i default).most := by
  simp only [mostTo, List.getD_eq_getElem?_getD, List.getElem?_map, List.getElem?_range (show i < 5 by omega), Option.map_some, Option.getD_some, if_pos hi]
/-- highest: the greatest changes that agree. -/
theorem highC_true (c : Cas) (hv : Valid c) (ws : List Int) (h : (highC c ws).2 = true) :
    (highC c ws).1.length = 5 ∧ Ag (sysC c ws) (fun i => (highC c ws).1.getD i 0) ∧ ∀ y, Ag (sysC c ws) y → ∀ i, i < c.shs.length → y i ≤ (highC c ws).1.getD i 0 := by
  have h' : highGo c ws 5 (mostTo c.shs c.shs.length) = ((highC c ws).1, true) := by rw [← h]; rfl
  obtain ⟨h1, h2, h3⟩ := highGo_true c hv ws 5 _ _ (by simp [mostTo]) (fun i hi => by
    rw [mostTo_get _ _ hi hv.n5]
    have := (sys_fine c hv ws).m0 i hi
    simp only [sysC] at this
    omega) h'
  refine ⟨h1, h2, fun y hy => h3 y hy fun i hi => ?_⟩
  rw [mostTo_get _ _ hi hv.n5]
  exact (hy.bx i hi).2
theorem highC_false (c : Cas) (hv : Valid c) (ws : List Int) (h : (highC c ws).2 = false) (y : Nat → Int) : ¬ Ag (sysC c ws) y := by
  intro hy
  obtain ⟨z, hz, hg⟩ := Ag.top ⟨y, hy⟩
  have h5 := hv.n5
  have := highGo_finds c hv ws z hz hg 5 (mostTo c.shs c.shs.length) (by simp [mostTo]) (fun i hi => by
    rw [mostTo_get _ _ hi h5]
    have := (hz.bx i hi).2
    simp only [sysC] at this
    omega) (by
    obtain ⟨i, hi, he⟩ := top_meets (sys_fine c hv ws) hz hg
    have h1 : 0 < cntR (fun i => decide ((mostTo c.shs c.shs.length).getD i 0 = z i)) c.shs.length := by
      have := sumR_lt (f := fun _ => 0) (g := fun i => if decide ((mostTo c.shs c.shs.length).getD i 0 = z i) = true then 1 else 0) (n := c.shs.length) (fun j _ => by split <;> omega)
        ⟨i, hi, by simp only [decide_eq_true_eq]; rw [if_pos (by rw [mostTo_get _ _ hi h5, he]; rfl)]; omega⟩
      rw [sumR_const] at this
      unfold cntR
      exact (by simpa using this)
    omega)
  rw [show highGo c ws 5 (mostTo c.shs c.shs.length) = highC c ws from rfl, h] at this
  cases this
end Go.Proofs.Ytojdocomkhihoaa
