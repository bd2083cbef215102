/- EdgeProof: the call returns true, whatever its arguments and the memory in which it begins; its arguments read as they did. -/
import Derived.Test.YthhlakodnpopmaaPc
import Derived.Test.YthhlakodnpopmaaHj1
import Derived.Test.YthhlakodnpopmaaRff
import Derived.BigQuiet
import Derived.Test.YthhlakodnpopmaaEar
import Derived.Maps.AppendAt
import Derived.Test.YthhlakodnpopmaaLvm
import Derived.Laws.StructEq
import Derived.Test.YthhlakodnpopmaaRows
import Derived.ProofKit
import Derived.JoinedOf
import Derived.JoinedAt
set_option linter.unusedSimpArgs false
set_option linter.unusedVariables false
namespace Go.Proofs.Ythhlakodnpopmaa
open Go Go.RowKit Ed

theorem sumR_zero : ∀ n, sumR (fun _ => 0) n = 0 := by
  intro n
  induction n with
  | zero => rfl
  | succ n ih => simp only [sumR, ih]; omega
theorem sumR_sub (f g : Nat → Int) : ∀ n, sumR (fun i => f i - g i) n = sumR f n - sumR g n := by
  intro n
  induction n with
  | zero => rfl
  | succ n ih => simp only [sumR, ih]; omega
theorem sumR_mul (c : Int) (f : Nat → Int) : ∀ n, sumR (fun i => f i * c) n = sumR f n * c := by
  intro n
  induction n with
  | zero => simp [sumR]
  | succ n ih => simp only [sumR, ih, Int.add_mul]
theorem sumR_swap (f : Nat → Nat → Int) (n : Nat) : ∀ m, sumR (fun s => sumR (fun i => f i s) m) n = sumR (fun i => sumR (fun s => f i s) n) m := by
  intro m
  induction m with
  | zero => exact sumR_zero n
  | succ m ih => simp only [sumR]; rw [sumR_add, ih]
theorem sumR_pick (v : Nat → Int) (a : Nat) : ∀ n, sumR (fun s => if a = s then v s else 0) n = if a < n then v a else 0 := by
  intro n
  induction n with
  | zero => rfl
  | succ n ih =>
    simp only [sumR, ih]
    by_cases e : a = n
    · subst e; simp
    · by_cases h : a < n
      · rw [if_pos h, if_neg e, if_pos (by omega)]; omega
      · rw [if_neg h, if_neg e, if_neg (by omega)]; rfl
/-- Sheets and edges between them. -/
structure Net where
  n : Nat
  m : Nat
  a : Nat → Nat
  b : Nat → Nat
  lo : Nat → Int
  hi : Nat → Int
  wt : Nat → Int
  most : Nat → Int
structure Net.Ok (N : Net) : Prop where
  an : ∀ i, i < N.m → N.a i < N.n
  bn : ∀ i, i < N.m → N.b i < N.n
  ne : ∀ i, i < N.m → N.a i ≠ N.b i
  lh : ∀ i, i < N.m → N.lo i ≤ N.hi i
  w0 : ∀ s, s < N.n → 0 ≤ N.wt s
  m0 : ∀ s, s < N.n → 0 ≤ N.most s
structure Net.Ag (N : Net) (x : Nat → Int) : Prop where
  bx : ∀ s, s < N.n → -N.most s ≤ x s ∧ x s ≤ N.most s
  ed : ∀ i, i < N.m → N.lo i ≤ x (N.a i) - x (N.b i) ∧ x (N.a i) - x (N.b i) ≤ N.hi i
def Net.cost (N : Net) (x : Nat → Int) : Int := sumR (fun s => N.wt s * absI (x s)) N.n
/-- What an edge's push gives, and what a sheet takes that is given so much. -/
def Net.eT (N : Net) (i : Nat) (y : Int) : Int := max y 0 * N.lo i + min y 0 * N.hi i
def Net.sT (N : Net) (s : Nat) (g : Int) : Int := N.most s * max 0 (absI g - N.wt s)
def Net.giv (N : Net) (p : Nat → Int) (s : Nat) : Int := sumR (fun i => (if N.a i = s then p i else 0) - (if N.b i = s then p i else 0)) N.m
def Net.bnd (N : Net) (p : Nat → Int) : Int := sumR (fun i => N.eT i (p i)) N.m - sumR (fun s => N.sT s (N.giv p s)) N.n
theorem giv_sum (N : Net) (h : N.Ok) (p x : Nat → Int) : sumR (fun s => N.giv p s * x s) N.n = sumR (fun i => p i * (x (N.a i) - x (N.b i))) N.m := by
  have e1 : sumR (fun s => N.giv p s * x s) N.n = sumR (fun s => sumR (fun i => ((if N.a i = s then p i * x s else 0) - (if N.b i = s then p i * x s else 0))) N.m) N.n := by
    apply sumR_congr
    intro s _
    unfold Net.giv
    rw [← sumR_mul]
    apply sumR_congr
    intro i _
    split <;> split <;> simp [Int.sub_mul, Int.neg_mul]
  rw [e1, sumR_swap]
  apply sumR_congr
  intro i hi
  rw [sumR_sub, sumR_pick (fun s => p i * x s), sumR_pick (fun s => p i * x s), if_pos (h.an i hi), if_pos (h.bn i hi), Int.mul_sub]
theorem edge_le {lo hi d y : Int} (h1 : lo ≤ d) (h2 : d ≤ hi) : max y 0 * lo + min y 0 * hi ≤ y * d := by
  rcases Int.lt_or_le y 0 with h | h
  · rw [show max y 0 = 0 by omega, show min y 0 = y by omega, Int.zero_mul, Int.zero_add]
    exact Int.mul_le_mul_of_nonpos_left (by omega) h2
  · rw [show max y 0 = y by omega, show min y 0 = 0 by omega, Int.zero_mul, Int.add_zero]
    exact Int.mul_le_mul_of_nonneg_left h1 h
theorem edge_eq {lo hi d y : Int} (h1 : 0 < y → d = lo) (h2 : y < 0 → d = hi) : max y 0 * lo + min y 0 * hi = y * d := by
  rcases Int.lt_trichotomy y 0 with h | h | h
  · rw [show max y 0 = 0 by omega, show min y 0 = y by omega, Int.zero_mul, Int.zero_add, h2 h]
  · subst h; simp
  · rw [show max y 0 = y by omega, show min y 0 = 0 by omega, Int.zero_mul, Int.add_zero, h1 h]
theorem mul_absI (g x : Int) : g * x ≤ absI g * absI x := by
  unfold absI
  rcases Int.lt_or_le g 0 with h | h <;> rcases Int.lt_or_le x 0 with k | k
  · rw [show max g (-g) = -g by omega, show max x (-x) = -x by omega, Int.neg_mul_neg]; exact Int.le_refl _
  · rw [show max g (-g) = -g by omega, show max x (-x) = x by omega, Int.neg_mul]
    have := Int.mul_nonneg (show 0 ≤ -g by omega) k
    rw [Int.neg_mul] at this
    omega
  · rw [show max g (-g) = g by omega, show max x (-x) = -x by omega, Int.mul_neg]
    have := Int.mul_nonneg h (show 0 ≤ -x by omega)
    rw [Int.mul_neg] at this
    omega
  · rw [show max g (-g) = g by omega, show max x (-x) = x by omega]; exact Int.le_refl _
theorem sheet_le {g x w k : Int} (hw : 0 ≤ w) (h1 : -k ≤ x) (h2 : x ≤ k) : g * x ≤ w * absI x + k * max 0 (absI g - w) := by
  have h := mul_absI g x
  have hx0 : 0 ≤ absI x := by unfold absI; omega
  have hx1 : absI x ≤ k := by unfold absI; omega
  generalize absI x = u at *
  generalize absI g = v at *
  rcases Int.lt_or_le w v with q | q
  · rw [show max 0 (v - w) = v - w by omega]
    have e : v * u = w * u + u * (v - w) := by rw [Int.mul_sub, Int.mul_comm v u, Int.mul_comm w u]; omega
    have := Int.mul_le_mul_of_nonneg_right hx1 (show 0 ≤ v - w by omega)
    omega
  · rw [show max 0 (v - w) = 0 by omega, Int.mul_zero, Int.add_zero]
    have := Int.mul_le_mul_of_nonneg_right q hx0
    omega
theorem sheet_eq {g x w k : Int} (hw : 0 ≤ w) (hk : 0 ≤ k) (h1 : w < g → x = k) (h2 : g = w → 0 ≤ x) (h3 : -w < g → g < w → x = 0) (h4 : g = -w → x ≤ 0) (h5 : g < -w → x = -k) (h6 : w = 0 → g = 0 → True) (h7 : 0 < w ∨ g ≠ 0) : g * x = w * absI x + k * max 0 (absI g - w) := by
  unfold absI
  rcases Int.lt_trichotomy g w with q | q | q
  · rcases Int.lt_trichotomy g (-w) with r | r | r
    · rw [h5 r, show max (-k) (- -k) = k by omega, show max 0 (max g (-g) - w) = -g - w by omega, Int.mul_neg, Int.mul_sub, Int.mul_neg, Int.mul_comm g k, Int.mul_comm w k]; omega
    · have := h4 r
      rw [show max x (-x) = -x by omega, show max 0 (max g (-g) - w) = 0 by omega, r, Int.neg_mul, Int.mul_neg, Int.mul_zero]; omega
    · rw [h3 r q, show max 0 (max g (-g) - w) = 0 by omega]; simp
  · have := h2 q
    rw [show max x (-x) = x by omega, show max 0 (max g (-g) - w) = 0 by omega, q]; simp
  · rw [h1 q, show max k (-k) = k by omega, show max 0 (max g (-g) - w) = g - w by omega, Int.mul_sub, Int.mul_comm g k, Int.mul_comm w k]; omega
/-- The bound of a proof is at most what changes cost that agree. -/
theorem net_weak (N : Net) (h : N.Ok) (p x : Nat → Int) (hx : N.Ag x) : N.bnd p ≤ N.cost x := by
  have e := giv_sum N h p x
  have h1 : sumR (fun i => N.eT i (p i)) N.m ≤ sumR (fun i => p i * (x (N.a i) - x (N.b i))) N.m := sumR_le fun i hi => edge_le (hx.ed i hi).1 (hx.ed i hi).2
  have h2 : sumR (fun s => N.giv p s * x s) N.n ≤ sumR (fun s => N.wt s * absI (x s) + N.sT s (N.giv p s)) N.n := sumR_le fun s hs => sheet_le (h.w0 s hs) (hx.bx s hs).1 (hx.bx s hs).2
  rw [sumR_add] at h2
  unfold Net.bnd Net.cost
  omega
/-- One push more at an edge, one more given to a sheet: what is gained. -/
def Net.gE (N : Net) (p : Nat → Int) (i : Nat) (y : Int) : Int := N.eT i (p i + y) - N.eT i (p i)
def Net.gS (N : Net) (p : Nat → Int) (s : Nat) (y : Int) : Int := N.sT s (N.giv p s) - N.sT s (N.giv p s + y)
theorem gE_up (N : Net) (p : Nat → Int) (i : Nat) : N.gE p i 1 = if 0 ≤ p i then N.lo i else N.hi i := by
  unfold Net.gE Net.eT
  split
  · rename_i h
    rw [show max (p i + 1) 0 = p i + 1 by omega, show max (p i) 0 = p i by omega, show min (p i + 1) 0 = 0 by omega, show min (p i) 0 = 0 by omega, Int.add_mul]; omega
  · rename_i h
    rw [show max (p i + 1) 0 = 0 by omega, show max (p i) 0 = 0 by omega, show min (p i + 1) 0 = p i + 1 by omega, show min (p i) 0 = p i by omega, Int.add_mul]; omega
theorem gE_down (N : Net) (p : Nat → Int) (i : Nat) : N.gE p i (-1) = if 0 < p i then -N.lo i else -N.hi i := by
  unfold Net.gE Net.eT
  split
  · rename_i h
    rw [show max (p i + -1) 0 = p i + -1 by omega, show max (p i) 0 = p i by omega, show min (p i + -1) 0 = 0 by omega, show min (p i) 0 = 0 by omega, Int.add_mul]; omega
  · rename_i h
    rw [show max (p i + -1) 0 = 0 by omega, show max (p i) 0 = 0 by omega, show min (p i + -1) 0 = p i + -1 by omega, show min (p i) 0 = p i by omega, Int.add_mul]; omega
theorem gS_up (N : Net) (h : N.Ok) (p : Nat → Int) (s : Nat) (hs : s < N.n) : N.gS p s 1 = if N.wt s ≤ N.giv p s then -N.most s else if N.giv p s < -N.wt s then N.most s else 0 := by
  have hw := h.w0 s hs
  unfold Net.gS Net.sT absI
  generalize N.giv p s = g at *
  generalize N.wt s = w at *
  split
  · rw [show max 0 (max (g + 1) (-(g + 1)) - w) = g + 1 - w by omega, show max 0 (max g (-g) - w) = g - w by omega, ← Int.mul_sub, show g - w - (g + 1 - w) = -1 by omega]; omega
  · split
    · rw [show max 0 (max (g + 1) (-(g + 1)) - w) = -g - 1 - w by omega, show max 0 (max g (-g) - w) = -g - w by omega, ← Int.mul_sub, show -g - w - (-g - 1 - w) = 1 by omega]; omega
    · rw [show max 0 (max (g + 1) (-(g + 1)) - w) = 0 by omega, show max 0 (max g (-g) - w) = 0 by omega]; omega
theorem gS_down (N : Net) (h : N.Ok) (p : Nat → Int) (s : Nat) (hs : s < N.n) : N.gS p s (-1) = if N.giv p s ≤ -N.wt s then -N.most s else if N.wt s < N.giv p s then N.most s else 0 := by
  have hw := h.w0 s hs
  unfold Net.gS Net.sT absI
  generalize N.giv p s = g at *
  generalize N.wt s = w at *
  split
  · rw [show max 0 (max (g + -1) (-(g + -1)) - w) = -g + 1 - w by omega, show max 0 (max g (-g) - w) = -g - w by omega, ← Int.mul_sub, show -g - w - (-g + 1 - w) = -1 by omega]; omega
  · split
    · rw [show max 0 (max (g + -1) (-(g + -1)) - w) = g - 1 - w by omega, show max 0 (max g (-g) - w) = g - w by omega, ← Int.mul_sub, show g - w - (g - 1 - w) = 1 by omega]; omega
    · rw [show max 0 (max (g + -1) (-(g + -1)) - w) = 0 by omega, show max 0 (max g (-g) - w) = 0 by omega]; omega
/-- Changes that are told by what is gained: they agree, and cost what the bound is. -/
theorem net_strong (N : Net) (h : N.Ok) (p x : Nat → Int)
    (hu : ∀ i, i < N.m → N.gE p i 1 ≤ x (N.a i) - x (N.b i)) (hd : ∀ i, i < N.m → N.gE p i (-1) ≤ x (N.b i) - x (N.a i))
    (su : ∀ s, s < N.n → x s ≤ -N.gS p s 1) (sd : ∀ s, s < N.n → N.gS p s (-1) ≤ x s) : N.Ag x ∧ N.bnd p = N.cost x := by
  have hE : ∀ i, i < N.m → (N.lo i ≤ x (N.a i) - x (N.b i) ∧ x (N.a i) - x (N.b i) ≤ N.hi i) ∧ (0 < p i → x (N.a i) - x (N.b i) = N.lo i) ∧ (p i < 0 → x (N.a i) - x (N.b i) = N.hi i) := by
    intro i hi
    have h1 := hu i hi
    have h2 := hd i hi
    have h3 := h.lh i hi
    rw [gE_up] at h1
    rw [gE_down] at h2
    generalize x (N.a i) = y at *
    generalize x (N.b i) = z at *
    refine ⟨⟨?_, ?_⟩, ?_, ?_⟩ <;> (split at h1 <;> split at h2 <;> omega)
  have hS : ∀ s, s < N.n → (-N.most s ≤ x s ∧ x s ≤ N.most s) ∧ N.giv p s * x s = N.wt s * absI (x s) + N.sT s (N.giv p s) := by
    intro s hs
    have h1 := su s hs
    have h2 := sd s hs
    have hw := h.w0 s hs
    have hk := h.m0 s hs
    rw [gS_up N h p s hs] at h1
    rw [gS_down N h p s hs] at h2
    unfold Net.sT
    generalize N.giv p s = g at *
    generalize N.wt s = w at *
    generalize N.most s = k at *
    generalize x s = y at *
    refine ⟨by split at h1 <;> split at h2 <;> (try split at h1) <;> (try split at h2) <;> omega, ?_⟩
    by_cases q : w = 0 ∧ g = 0
    · obtain ⟨rfl, rfl⟩ := q
      simp [absI]
    · exact sheet_eq hw hk (by intro r; split at h1 <;> split at h2 <;> (try split at h1) <;> (try split at h2) <;> omega) (by intro r; split at h1 <;> split at h2 <;> (try split at h1) <;> (try split at h2) <;> omega) (by intro r1 r2; split at h1 <;> split at h2 <;> (try split at h1) <;> (try split at h2) <;> omega) (by intro r; split at h1 <;> split at h2 <;> (try split at h1) <;> (try split at h2) <;> omega) (by intro r; split at h1 <;> split at h2 <;> (try split at h1) <;> (try split at h2) <;> omega) (fun _ _ => trivial) (by omega)
  refine ⟨⟨fun s hs => (hS s hs).1, fun i hi => (hE i hi).1⟩, ?_⟩
  have e := giv_sum N h p x
  have h1 : sumR (fun i => N.eT i (p i)) N.m = sumR (fun i => p i * (x (N.a i) - x (N.b i))) N.m := sumR_congr fun i hi => edge_eq (hE i hi).2.1 (hE i hi).2.2
  have h2 : sumR (fun s => N.giv p s * x s) N.n = sumR (fun s => N.wt s * absI (x s) + N.sT s (N.giv p s)) N.n := sumR_congr fun s hs => (hS s hs).2
  rw [sumR_add] at h2
  unfold Net.bnd Net.cost
  omega
/-- From a sheet along an edge: where to, and what the push adds. -/
def Net.to (N : Net) (i v : Nat) : Nat := if N.a i = v then N.b i else N.a i
def Net.go (N : Net) (i v : Nat) : Int := if N.a i = v then 1 else if N.b i = v then -1 else 0
def upI (q : Nat → Int) (i : Nat) (y : Int) : Nat → Int := fun j => if i = j then y else q j
def upB (q : Nat → Bool) (i : Nat) : Nat → Bool := fun j => if i = j then true else q j
def noB : Nat → Bool := fun _ => false
/-- Where a search comes to. -/
inductive Net.Run (N : Net) : Nat → (Nat → Int) → (Nat → Bool) → Nat → (Nat → Int) → (Nat → Bool) → Prop
  | here (v : Nat) (p : Nat → Int) (b : Nat → Bool) : Net.Run N v p b v p b
  | step (v : Nat) (p : Nat → Int) (b : Nat → Bool) (i u : Nat) (q : Nat → Int) (b' : Nat → Bool) : b v = false → i < N.m → N.go i v ≠ 0 →
      Net.Run N (N.to i v) (upI p i (p i + N.go i v)) (upB b v) u q b' → Net.Run N v p b u q b'
theorem Net.Run.snoc {N : Net} {v u : Nat} {p q : Nat → Int} {b b' : Nat → Bool} (h : N.Run v p b u q b') : ∀ i, b' u = false → i < N.m → N.go i u ≠ 0 → N.Run v p b (N.to i u) (upI q i (q i + N.go i u)) (upB b' u) := by
  induction h with
  | here v p b => intro i h1 h2 h3; exact .step v p b i _ _ _ h1 h2 h3 (.here _ _ _)
  | step v p b j u q b' h1 h2 h3 _ ih => intro i k1 k2 k3; exact .step v p b j _ _ _ h1 h2 h3 (ih i k1 k2 k3)
/-- A way that comes to no sheet twice. -/
inductive Net.Pth (N : Net) (p : Nat → Int) (s : Nat) : Nat → (Nat → Bool) → (Nat → Int) → Int → Prop
  | nil : Net.Pth N p s s noB p 0
  | snoc (v : Nat) (vis : Nat → Bool) (q : Nat → Int) (G : Int) (i : Nat) : Net.Pth N p s v vis q G → i < N.m → N.go i v ≠ 0 → vis (N.to i v) = false → N.to i v ≠ v →
      Net.Pth N p s (N.to i v) (upB vis v) (upI q i (q i + N.go i v)) (G + N.gE p i (N.go i v))
theorem Net.go_cases {N : Net} {i v : Nat} (h : N.go i v ≠ 0) : (N.a i = v ∧ N.go i v = 1 ∧ N.to i v = N.b i) ∨ (N.b i = v ∧ N.a i ≠ v ∧ N.go i v = -1 ∧ N.to i v = N.a i) := by
  unfold Net.go Net.to at *
  by_cases e : N.a i = v
  · left; simp [e]
  · by_cases k : N.b i = v
    · right; simp [e, k]
    · simp [e, k] at h
theorem Net.Pth.lt {N : Net} (hN : N.Ok) {p : Nat → Int} {s v : Nat} {vis : Nat → Bool} {q : Nat → Int} {G : Int} (h : N.Pth p s v vis q G) (hs : s < N.n) : v < N.n := by
  cases h with
  | nil => exact hs
  | snoc v vis q G i h1 h2 h3 h4 h5 =>
    rcases Net.go_cases h3 with ⟨_, _, e⟩ | ⟨_, _, _, e⟩ <;> rw [e]
    · exact hN.bn i h2
    · exact hN.an i h2
theorem Net.Pth.vis0 {N : Net} {p : Nat → Int} {s v : Nat} {vis : Nat → Bool} {q : Nat → Int} {G : Int} (h : N.Pth p s v vis q G) : vis v = false := by
  cases h with
  | nil => rfl
  | snoc v vis q G i h1 h2 h3 h4 h5 => unfold upB; rw [if_neg (fun e => h5 e.symm)]; exact h4
theorem Net.Pth.run {N : Net} {p : Nat → Int} {s v : Nat} {vis : Nat → Bool} {q : Nat → Int} {G : Int} (h : N.Pth p s v vis q G) : N.Run s p noB v q vis := by
  induction h with
  | nil => exact .here _ _ _
  | snoc v vis q G i h1 h2 h3 h4 h5 ih => exact ih.snoc i h1.vis0 h2 h3
theorem Net.Pth.used {N : Net} {p : Nat → Int} {s v : Nat} {vis : Nat → Bool} {q : Nat → Int} {G : Int} (h : N.Pth p s v vis q G) : ∀ i, q i ≠ p i → (vis (N.a i) = true ∨ N.a i = v) ∧ (vis (N.b i) = true ∨ N.b i = v) := by
  induction h with
  | nil => intro i hi; exact absurd rfl hi
  | snoc v vis q G j h1 h2 h3 h4 h5 ih =>
    intro i hi
    by_cases e : j = i
    · subst e
      rcases Net.go_cases h3 with ⟨e1, _, e2⟩ | ⟨e1, _, _, e2⟩
      · exact ⟨Or.inl (by unfold upB; rw [if_pos e1.symm]), Or.inr e2.symm⟩
      · exact ⟨Or.inr e2.symm, Or.inl (by unfold upB; rw [if_pos e1.symm])⟩
    · have hq : q i ≠ p i := by unfold upI at hi; rw [if_neg e] at hi; exact hi
      have h := ih i hq
      have key : ∀ z, vis z = true ∨ z = v → upB vis v z = true := by
        intro z hz
        unfold upB
        by_cases k : v = z
        · rw [if_pos k]
        · rw [if_neg k]; rcases hz with hz | hz
          · exact hz
          · exact absurd hz.symm k
      exact ⟨Or.inl (key _ h.1), Or.inl (key _ h.2)⟩
/-- An edge that leads to a sheet where the way has not been has not been pushed. -/
theorem Net.Pth.fresh {N : Net} {p : Nat → Int} {s v : Nat} {vis : Nat → Bool} {q : Nat → Int} {G : Int} (h : N.Pth p s v vis q G) {i : Nat} (h3 : N.go i v ≠ 0) (h4 : vis (N.to i v) = false) (h5 : N.to i v ≠ v) : q i = p i := by
  apply Classical.byContradiction
  intro hq
  have hu := h.used i hq
  rcases Net.go_cases h3 with ⟨_, _, e⟩ | ⟨_, _, _, e⟩
  · rw [e] at h4 h5
    rcases hu.2 with k | k
    · rw [h4] at k; cases k
    · exact h5 k
  · rw [e] at h4 h5
    rcases hu.1 with k | k
    · rw [h4] at k; cases k
    · exact h5 k
theorem sumR_up (f : Nat → Int → Int) (q : Nat → Int) (i : Nat) (y : Int) : ∀ m, sumR (fun j => f j (upI q i y j)) m = sumR (fun j => f j (q j)) m + if i < m then f i y - f i (q i) else 0 := by
  intro m
  induction m with
  | zero => simp [sumR]
  | succ m ih =>
    simp only [sumR, ih]
    unfold upI
    by_cases e : i = m
    · subst e; simp; omega
    · by_cases k : i < m
      · rw [if_pos k, if_neg e, if_pos (by omega)]; omega
      · rw [if_neg k, if_neg e, if_neg (by omega)]; omega
theorem giv_up (N : Net) (hN : N.Ok) (q : Nat → Int) (i v : Nat) (hi : i < N.m) (h3 : N.go i v ≠ 0) (t : Nat) : N.giv (upI q i (q i + N.go i v)) t = N.giv q t + (if v = t then 1 else 0) - (if N.to i v = t then 1 else 0) := by
  unfold Net.giv
  rw [sumR_up (fun j z => (if N.a j = t then z else 0) - (if N.b j = t then z else 0)), if_pos hi]
  have hne := hN.ne i hi
  rcases Net.go_cases h3 with ⟨e1, e2, e3⟩ | ⟨e1, e0, e2, e3⟩
  · rw [e2, e3, e1]
    by_cases k1 : v = t
    · by_cases k2 : N.b i = t
      · omega
      · simp only [if_pos k1, if_neg k2]; omega
    · by_cases k2 : N.b i = t
      · simp only [if_neg k1, if_pos k2]; omega
      · simp only [if_neg k1, if_neg k2]; omega
  · rw [e2, e3, e1]
    by_cases k1 : v = t
    · by_cases k2 : N.a i = t
      · omega
      · simp only [if_pos k1, if_neg k2]; omega
    · by_cases k2 : N.a i = t
      · simp only [if_neg k1, if_pos k2]; omega
      · simp only [if_neg k1, if_neg k2]; omega
theorem Net.Pth.giv {N : Net} (hN : N.Ok) {p : Nat → Int} {s v : Nat} {vis : Nat → Bool} {q : Nat → Int} {G : Int} (h : N.Pth p s v vis q G) (t : Nat) : N.giv q t = N.giv p t + (if s = t then 1 else 0) - (if v = t then 1 else 0) := by
  induction h with
  | nil => omega
  | snoc v vis q G i h1 h2 h3 h4 h5 ih => rw [giv_up N hN q i v h2 h3, ih]; omega
theorem Net.Pth.gain {N : Net} {p : Nat → Int} {s v : Nat} {vis : Nat → Bool} {q : Nat → Int} {G : Int} (h : N.Pth p s v vis q G) : sumR (fun i => N.eT i (q i)) N.m = sumR (fun i => N.eT i (p i)) N.m + G := by
  induction h with
  | nil => omega
  | snoc v vis q G i h1 h2 h3 h4 h5 ih =>
    rw [sumR_up (fun j z => N.eT j z), if_pos h2, ih, h1.fresh h3 h4 h5]
    unfold Net.gE
    omega
theorem Net.Pth.start {N : Net} {p : Nat → Int} {s v : Nat} {vis : Nat → Bool} {q : Nat → Int} {G : Int} (h : N.Pth p s v vis q G) : (v = s ∧ G = 0) ∨ vis s = true := by
  induction h with
  | nil => exact Or.inl ⟨rfl, rfl⟩
  | snoc v vis q G i h1 h2 h3 h4 h5 ih =>
    right
    unfold upB
    by_cases k : v = s
    · rw [if_pos k]
    · rw [if_neg k]
      rcases ih with ih | ih
      · exact absurd ih.1 k
      · exact ih
/-- The way that leads back over the edge by which the way has come. -/
theorem Net.Pth.back {N : Net} {p : Nat → Int} {s v : Nat} {vis : Nat → Bool} {q : Nat → Int} {G : Int} (h : N.Pth p s v vis q G) {i : Nat} (hq : q i ≠ p i) (hi : N.a i = v ∨ N.b i = v) :
    ∃ w vw qw Gw, N.Pth p s w vw qw Gw ∧ G = Gw + N.gE p i (N.go i w) ∧ N.to i w = v ∧ N.go i w ≠ 0 := by
  cases h with
  | nil => exact absurd rfl hq
  | snoc w vw qw Gw j h1 h2 h3 h4 h5 =>
    by_cases e : j = i
    · subst e; exact ⟨w, vw, qw, Gw, h1, rfl, rfl, h3⟩
    · exfalso
      have hq' : qw i ≠ p i := by unfold upI at hq; rw [if_neg e] at hq; exact hq
      have hu := h1.used i hq'
      rcases hi with hi | hi
      · rcases hu.1 with k | k
        · rw [hi, h4] at k; cases k
        · exact h5 (hi.symm.trans k)
      · rcases hu.2 with k | k
        · rw [hi, h4] at k; cases k
        · exact h5 (hi.symm.trans k)
/-- A way is what leads to one of its sheets, and what leads from there on. -/
theorem Net.Pth.split {N : Net} {p : Nat → Int} {s v : Nat} {vis : Nat → Bool} {q : Nat → Int} {G : Int} (h : N.Pth p s v vis q G) : ∀ u, vis u = true →
    ∃ v1 q1 G1 v2 q2 G2, N.Pth p s u v1 q1 G1 ∧ N.Pth p u v v2 q2 G2 ∧ G = G1 + G2 ∧ (∀ z, v2 z = true → vis z = true) ∧ (∀ i, q2 i ≠ p i → q i ≠ p i) := by
  induction h with
  | nil => intro u hu; cases hu
  | snoc v vis q G j h1 h2 h3 h4 h5 ih =>
    intro u hu
    have hf := h1.fresh h3 h4 h5
    have hn : ∀ i, j = i → upI q j (q j + N.go j v) i ≠ p i := by
      intro i e
      subst e
      unfold upI
      rw [if_pos rfl, hf]
      omega
    by_cases k : v = u
    · subst k
      refine ⟨vis, q, G, _, _, _, h1, .snoc v noB p 0 j .nil h2 h3 rfl h5, by omega, fun z hz => ?_, fun i hi => ?_⟩
      · unfold upB noB at hz
        unfold upB
        by_cases e : v = z
        · rw [if_pos e]
        · rw [if_neg e] at hz; cases hz
      · unfold upI at hi
        by_cases e : j = i
        · exact hn i e
        · rw [if_neg e] at hi; exact absurd rfl hi
    · have hu' : vis u = true := by unfold upB at hu; rw [if_neg k] at hu; exact hu
      obtain ⟨v1, q1, G1, v2, q2, G2, a1, a2, a3, a4, a5⟩ := ih u hu'
      have hv2 : v2 (N.to j v) = false := by
        cases e : v2 (N.to j v) with
        | false => rfl
        | true => have := a4 _ e; rw [h4] at this; cases this
      refine ⟨v1, q1, G1, _, _, _, a1, .snoc v v2 q2 G2 j a2 h2 h3 hv2 h5, by omega, fun z hz => ?_, fun i hi => ?_⟩
      · unfold upB at hz ⊢
        by_cases e : v = z
        · rw [if_pos e]
        · rw [if_neg e] at hz ⊢; exact a4 z hz
      · by_cases e : j = i
        · exact hn i e
        · unfold upI at hi ⊢
          rw [if_neg e] at hi ⊢
          exact a5 i hi
theorem int_max (P : Int → Prop) (B : Int) (hB : ∀ z, P z → z ≤ B) (hne : ∃ z, P z) : ∃ z, P z ∧ ∀ y, P y → y ≤ z := by
  have key : ∀ (k : Nat) (z : Int), P z → B - z ≤ k → ∃ z, P z ∧ ∀ y, P y → y ≤ z := by
    intro k
    induction k with
    | zero => intro z hz hk; exact ⟨z, hz, fun y hy => by have := hB y hy; omega⟩
    | succ k ih =>
      intro z hz hk
      by_cases hall : ∀ y, P y → y ≤ z
      · exact ⟨z, hz, hall⟩
      · have : ∃ y, P y ∧ z < y := by
          apply Classical.byContradiction
          intro hno
          apply hall
          intro y hy
          rcases Int.lt_or_le z y with h | h
          · exact absurd ⟨y, hy, h⟩ hno
          · exact h
        obtain ⟨y, hy, hlt⟩ := this
        exact ih y hy (by omega)
  obtain ⟨z, hz⟩ := hne
  exact key (B - z).toNat z hz (by have := hB z hz; omega)
theorem gS_both (N : Net) (hN : N.Ok) (p : Nat → Int) (s : Nat) (hs : s < N.n) : N.gS p s 1 + N.gS p s (-1) ≤ 0 := by
  have hw := hN.w0 s hs
  have hk := hN.m0 s hs
  rw [gS_up N hN p s hs, gS_down N hN p s hs]
  split <;> split <;> (try split) <;> (try split) <;> omega
theorem gE_both (N : Net) (hN : N.Ok) (p : Nat → Int) (i : Nat) (hi : i < N.m) : N.gE p i 1 + N.gE p i (-1) ≤ 0 := by
  have := hN.lh i hi
  rw [gE_up, gE_down]
  split <;> split <;> omega
/-- Where no search finds more, changes agree that cost what the bound is. -/
theorem net_stuck (N : Net) (hN : N.Ok) (p : Nat → Int) (hno : ∀ s, s < N.n → ∀ u q b, N.Run s p noB u q b → N.bnd q ≤ N.bnd p) : ∃ x, N.Ag x ∧ N.bnd p = N.cost x := by
  have hup : ∀ s v vis q G, s < N.n → N.Pth p s v vis q G → G + N.gS p s 1 ≤ -N.gS p v (-1) := by
    intro s v vis q G hs h
    have hv := h.lt hN hs
    by_cases e : s = v
    · have h0 := gS_both N hN p v hv
      rcases h.start with ⟨_, k⟩ | k
      · subst e; omega
      · rw [e, h.vis0] at k; cases k
    · have hb := hno s hs _ _ _ h.run
      unfold Net.bnd at hb
      rw [h.gain] at hb
      have hsum : sumR (fun t => N.sT t (N.giv q t)) N.n = sumR (fun t => (N.sT t (N.giv p t) - (if s = t then N.gS p s 1 else 0)) - (if v = t then N.gS p v (-1) else 0)) N.n := by
        apply sumR_congr
        intro t _
        rw [h.giv hN t]
        by_cases k1 : s = t
        · subst k1
          rw [if_pos rfl, if_neg (fun e' => e e'.symm), if_pos rfl, if_neg (fun e' => e e'.symm)]
          unfold Net.gS
          rw [Int.sub_zero]
          omega
        · by_cases k2 : v = t
          · subst k2
            rw [if_neg k1, if_pos rfl, if_neg k1, if_pos rfl]
            unfold Net.gS
            rw [show N.giv p v + 0 - 1 = N.giv p v + -1 by omega]
            omega
          · rw [if_neg k1, if_neg k2, if_neg k1, if_neg k2]
            simp
      rw [hsum, sumR_sub, sumR_sub, sumR_pick (fun _ => N.gS p s 1), sumR_pick (fun _ => N.gS p v (-1)), if_pos hs, if_pos hv] at hb
      omega
  have hD : ∀ v, ∃ z, v < N.n → (∃ s vis q G, s < N.n ∧ N.Pth p s v vis q G ∧ z = G + N.gS p s 1) ∧ ∀ s vis q G, s < N.n → N.Pth p s v vis q G → G + N.gS p s 1 ≤ z := by
    intro v
    by_cases hv : v < N.n
    · obtain ⟨z, hz, hm⟩ := int_max (fun z => ∃ s vis q G, s < N.n ∧ N.Pth p s v vis q G ∧ z = G + N.gS p s 1) (-N.gS p v (-1)) (by rintro z ⟨s, vis, q, G, hs, h, rfl⟩; exact hup s v vis q G hs h) ⟨_, v, noB, p, 0, hv, .nil, rfl⟩
      exact ⟨z, fun _ => ⟨hz, fun s vis q G hs h => hm _ ⟨s, vis, q, G, hs, h, rfl⟩⟩⟩
    · exact ⟨0, fun h => absurd h hv⟩
  obtain ⟨D, hD⟩ := Classical.skolem.1 hD
  have hstep : ∀ i v, i < N.m → N.go i v ≠ 0 → v < N.n → D v + N.gE p i (N.go i v) ≤ D (N.to i v) := by
    intro i v hi hg hv
    have hne := hN.ne i hi
    obtain ⟨⟨s, vis, q, G, hs, h, hz⟩, _⟩ := hD v hv
    have htv : N.to i v ≠ v := by
      rcases Net.go_cases hg with ⟨e1, _, e⟩ | ⟨e1, e0, _, e⟩ <;> rw [e] <;> omega
    have hu : N.to i v < N.n := by
      rcases Net.go_cases hg with ⟨_, _, e⟩ | ⟨_, _, _, e⟩ <;> rw [e]
      · exact hN.bn i hi
      · exact hN.an i hi
    have hmax := (hD _ hu).2
    cases hvu : vis (N.to i v) with
    | false =>
      have := hmax s _ _ _ hs (.snoc v vis q G i h hi hg hvu htv)
      omega
    | true =>
      by_cases hq : q i = p i
      · obtain ⟨v1, q1, G1, v2, q2, G2, a1, a2, a3, a4, a5⟩ := h.split _ hvu
        have hq2 : q2 i = p i := Classical.byContradiction fun hne' => a5 i hne' hq
        have hb := hno _ hu _ _ _ (a2.run.snoc i a2.vis0 hi hg)
        have hsum : sumR (fun t => N.sT t (N.giv (upI q2 i (q2 i + N.go i v)) t)) N.n = sumR (fun t => N.sT t (N.giv p t)) N.n := by
          apply sumR_congr
          intro t _
          rw [giv_up N hN q2 i v hi hg, a2.giv hN t]
          congr 1
          omega
        unfold Net.bnd at hb
        rw [hsum, sumR_up (fun j z => N.eT j z), if_pos hi, a2.gain, hq2] at hb
        have := hmax s _ _ _ hs a1
        unfold Net.gE
        omega
      · obtain ⟨w, vw, qw, Gw, b1, b2, b3, b4⟩ := h.back hq (by rcases Net.go_cases hg with ⟨e, _⟩ | ⟨e, _⟩; exact Or.inl e; exact Or.inr e)
        have h0 := gE_both N hN p i hi
        have hw : w = N.to i v ∧ N.go i w = -N.go i v := by
          rcases Net.go_cases hg with ⟨e1, e2, e3⟩ | ⟨e1, e0, e2, e3⟩ <;> rcases Net.go_cases b4 with ⟨f1, f2, f3⟩ | ⟨f1, f0, f2, f3⟩ <;> rw [e3, e2, f2] <;> rw [f3] at b3 <;> omega
        have := hmax s vw qw Gw hs (by rw [← hw.1]; exact b1)
        rw [hw.2] at b2
        rcases Net.go_cases hg with ⟨e1, e2, e3⟩ | ⟨e1, e0, e2, e3⟩
        · rw [e2] at b2 ⊢; omega
        · rw [e2] at b2 ⊢; rw [show (- -1 : Int) = 1 by omega] at b2; omega
  refine ⟨fun v => -D v, net_strong N hN p _ (fun i hi => ?_) (fun i hi => ?_) (fun s hs => ?_) (fun s hs => ?_)⟩
  · have hg : N.go i (N.a i) = 1 := by unfold Net.go; simp
    have ht : N.to i (N.a i) = N.b i := by unfold Net.to; simp
    have := hstep i (N.a i) hi (by omega) (hN.an i hi)
    rw [hg, ht] at this
    omega
  · have hne := hN.ne i hi
    have hg : N.go i (N.b i) = -1 := by unfold Net.go; rw [if_neg hne]; simp
    have ht : N.to i (N.b i) = N.a i := by unfold Net.to; rw [if_neg hne]
    have := hstep i (N.b i) hi (by omega) (hN.bn i hi)
    rw [hg, ht] at this
    omega
  · have := (hD s hs).2 s noB p 0 hs .nil
    omega
  · obtain ⟨⟨s', vis, q, G, hs', h, hz⟩, _⟩ := hD s hs
    have := hup s' s vis q G hs' h
    omega

/-! ## The case as sheets and edges between them -/
def pfI (l : List Int) : Nat → Int := fun i => l.getD i 0
def bfB (l : List Bool) : Nat → Bool := fun i => l.getD i false
def netC (c : Cas) (ws : List Int) : Net where
  n := c.shs.length
  m := c.eds.length
  a := fun i => (c.eds.getD i default).a.toNat
  b := fun i => (c.eds.getD i default).b.toNat
  lo := fun i => (wL ws i).1
  hi := fun i => (wL ws i).2
  wt := fun s => (c.shs.getD s default).wt
  most := fun s => (c.shs.getD s default).most
theorem net_edge (c : Cas) (hv : Valid c) (i : Nat) (hi : i < c.eds.length) : 0 ≤ (c.eds.getD i default).a ∧ (c.eds.getD i default).a < c.shs.length ∧ 0 ≤ (c.eds.getD i default).b ∧ (c.eds.getD i default).b < c.shs.length ∧ (c.eds.getD i default).a ≠ (c.eds.getD i default).b := by
  rw [getD_lt _ _ hi]
  have h := hv.ed _ (List.getElem_mem hi)
  exact ⟨h.a0, h.an, h.b0, h.bn, h.ne⟩
theorem net_ok (c : Cas) (hv : Valid c) (ws : List Int) (ht : tornK ws c.eds.length = false) : (netC c ws).Ok := by
  refine ⟨fun i hi => ?_, fun i hi => ?_, fun i hi => ?_, fun i hi => ?_, fun s hs => ?_, fun s hs => ?_⟩
  · have := net_edge c hv i hi; simp only [netC]; omega
  · have := net_edge c hv i hi; simp only [netC]; omega
  · have := net_edge c hv i hi; simp only [netC]; omega
  · unfold tornK at ht
    rw [List.any_eq_false] at ht
    have := ht i (List.mem_range.2 hi)
    simp only [decide_eq_true_eq] at this
    simp only [netC]
    omega
  · simp only [netC] at hs ⊢
    rw [getD_lt _ _ hs]
    exact (hv.sh _ (List.getElem_mem hs)).w0
  · simp only [netC] at hs ⊢
    rw [getD_lt _ _ hs]
    exact (hv.sh _ (List.getElem_mem hs)).m0
theorem bndE_net (c : Cas) (ws p : List Int) : ∀ k, bndE ws p k = sumR (fun i => (netC c ws).eT i (pfI p i)) k := by
  intro k
  induction k with
  | zero => rfl
  | succ k ih => simp only [bndE, sumR, ih]; rfl
theorem givTo_net (c : Cas) (hv : Valid c) (ws p : List Int) : ∀ k, k ≤ c.eds.length → ∀ s, s < 5 → (givTo c.eds p k).getD s 0 = sumR (fun i => (if (netC c ws).a i = s then pfI p i else 0) - (if (netC c ws).b i = s then pfI p i else 0)) k := by
  intro k
  induction k with
  | zero => intro _ s _; exact z5_get s
  | succ k ih =>
    intro hk s hs
    have he := net_edge c hv k (by omega)
    have hn := hv.n5
    have h1 := ih (by omega) s hs
    simp only [sumR]
    rw [← h1]
    change _ = _ + ((if (c.eds.getD k default).a.toNat = s then p.getD k 0 else 0) - (if (c.eds.getD k default).b.toNat = s then p.getD k 0 else 0))
    simp only [givTo, givStep, getD_set, List.length_set, givTo_length]
    have hab : (c.eds.getD k default).a.toNat ≠ (c.eds.getD k default).b.toNat := by omega
    clear h1 he
    generalize (c.eds.getD k default).a.toNat = x at *
    generalize (c.eds.getD k default).b.toNat = y at *
    by_cases e1 : x = s
    · subst e1
      rw [if_neg (fun h => hab h.1.symm), if_pos ⟨rfl, hs⟩, if_pos rfl, if_neg (fun h => hab h.symm)]
      omega
    · by_cases e2 : y = s
      · subst e2
        rw [if_pos ⟨rfl, hs⟩, if_neg (fun h => hab h.1), if_neg e1, if_pos rfl]
        omega
      · rw [if_neg (fun h => e2 h.1), if_neg (fun h => e1 h.1), if_neg e1, if_neg e2]
        omega
theorem bndS_net (l : List Sht) (g : List Int) (b : Int) : ∀ k, bndS l g b k = b - sumR (fun s => (l.getD s default).most * max 0 (absI (g.getD s 0) - (l.getD s default).wt)) k := by
  intro k
  induction k with
  | zero => simp [bndS, sumR]
  | succ k ih => simp only [bndS, sumR, ih]; omega
theorem bndC_net (c : Cas) (hv : Valid c) (ws p : List Int) : bndC c ws p = (netC c ws).bnd (pfI p) := by
  unfold bndC Net.bnd
  rw [bndS_net, bndE_net c]
  have e : sumR (fun s => (c.shs.getD s default).most * max 0 (absI ((givTo c.eds p c.eds.length).getD s 0) - (c.shs.getD s default).wt)) c.shs.length = sumR (fun s => (netC c ws).sT s ((netC c ws).giv (pfI p) s)) (netC c ws).n := by
    apply sumR_congr
    intro s hs
    have h5 := hv.n5
    rw [givTo_net c hv ws p _ (Nat.le_refl _) s (by omega)]
    rfl
  rw [e]
  rfl
theorem ag_net (c : Cas) (ws : List Int) (x : Nat → Int) : Ag (sysC c ws) x ↔ (netC c ws).Ag x := by
  constructor
  · intro h
    refine ⟨fun s hs => h.bx s hs, fun i hi => ?_⟩
    exact h.ed ⟨(c.eds.getD i default).a.toNat, (c.eds.getD i default).b.toNat, (wL ws i).1, (wL ws i).2⟩ (by simp only [sysC, List.mem_map, List.mem_range]; exact ⟨i, hi, rfl⟩)
  · intro h
    refine ⟨fun s hs => h.bx s hs, fun e he => ?_⟩
    simp only [sysC, List.mem_map, List.mem_range] at he
    obtain ⟨i, hi, rfl⟩ := he
    exact h.ed i hi
theorem cost_net (c : Cas) (ws : List Int) (x : Nat → Int) : costF (sysC c ws) x = (netC c ws).cost x := rfl
/-- No proof's bound is above what changes cost that agree. -/
theorem bnd_weak (c : Cas) (hv : Valid c) (ws : List Int) (ht : tornK ws c.eds.length = false) (p : List Int) (x : Nat → Int) (hx : Ag (sysC c ws) x) : bndC c ws p ≤ costF (sysC c ws) x := by
  rw [bndC_net c hv]
  exact net_weak _ (net_ok c hv ws ht) _ _ ((ag_net c ws x).1 hx)
theorem pf_set (l : List Int) (i : Nat) (y : Int) (hi : i < l.length) : pfI (l.set i y) = upI (pfI l) i y := by
  funext j
  unfold pfI upI
  rw [getD_set]
  by_cases e : i = j
  · subst e; rw [if_pos ⟨rfl, hi⟩, if_pos rfl]
  · rw [if_neg (fun h => e h.1), if_neg e]
theorem bf_set (l : List Bool) (i : Nat) (hi : i < l.length) : bfB (l.set i true) = upB (bfB l) i := by
  funext j
  show (l.set i true).getD j false = if i = j then true else l.getD j false
  rw [List.getD_eq_getElem?_getD, List.getD_eq_getElem?_getD, List.getElem?_set]
  by_cases e : i = j
  · subst e; simp [hi]
  · simp [e]
theorem acr_net (c : Cas) (hv : Valid c) (ws : List Int) (i v : Nat) (hi : i < c.eds.length) : (acrS (c.eds.getD i default) (v : Int)).2 = (netC c ws).go i v ∧ ((netC c ws).go i v ≠ 0 → (acrS (c.eds.getD i default) (v : Int)).1.toNat = (netC c ws).to i v) := by
  have he := net_edge c hv i hi
  have g1 : (netC c ws).go i v = if (c.eds.getD i default).a.toNat = v then 1 else if (c.eds.getD i default).b.toNat = v then -1 else 0 := rfl
  have g2 : (netC c ws).to i v = if (c.eds.getD i default).a.toNat = v then (c.eds.getD i default).b.toNat else (c.eds.getD i default).a.toNat := rfl
  rw [g1, g2]
  unfold acrS
  by_cases e1 : (v : Int) = (c.eds.getD i default).a
  · have f1 : (c.eds.getD i default).a.toNat = v := by omega
    simp only [if_pos e1, if_pos f1]
    exact ⟨trivial, fun _ => trivial⟩
  · have f1 : ¬ (c.eds.getD i default).a.toNat = v := by omega
    by_cases e2 : (v : Int) = (c.eds.getD i default).b
    · have f2 : (c.eds.getD i default).b.toNat = v := by omega
      simp only [if_neg e1, if_pos e2, if_neg f1, if_pos f2]
      exact ⟨trivial, fun _ => trivial⟩
    · have f2 : ¬ (c.eds.getD i default).b.toNat = v := by omega
      simp only [if_neg e1, if_neg e2, if_neg f1, if_neg f2]
      exact ⟨trivial, fun h => absurd rfl h⟩
/-- A search that finds nothing has been everywhere. -/
theorem pushM_none (c : Cas) (hv : Valid c) (ws : List Int) (before : Int) {v u : Nat} {p q : Nat → Int} {b b' : Nat → Bool} (h : (netC c ws).Run v p b u q b') :
    ∀ (f : Nat) (pl : List Int) (bl : List Bool), pl.length = 8 → bl.length = 5 → v < c.shs.length → p = pfI pl → b = bfB bl → cntF bl < f → pushM c ws before f v pl bl = none → (netC c ws).bnd q ≤ before := by
  induction h with
  | here v p b =>
    intro f pl bl h1 h2 h3 h4 h5 h6 h7
    subst h4
    cases f with
    | zero => omega
    | succ f =>
      simp only [pushM] at h7
      split at h7
      · cases h7
      · rename_i hb
        rw [bndC_net c hv] at hb
        omega
  | step v p b i u q b' k1 k2 k3 _ ih =>
    intro f pl bl h1 h2 h3 h4 h5 h6 h7
    subst h4 h5
    have hk2 : i < c.eds.length := k2
    have hm := hv.m8
    have hn := hv.n5
    have hok := acr_net c hv ws i v hk2
    cases f with
    | zero => omega
    | succ f =>
      simp only [pushM] at h7
      split at h7
      · cases h7
      · rw [if_neg (by have : bl.getD v false = false := k1; rw [this]; simp)] at h7
        rw [firstSm_none] at h7
        have h8 := h7 i (Nat.zero_le _) (by omega)
        rw [if_neg (by rw [hok.1]; exact k3), hok.2 k3, hok.1] at h8
        have hc := cntF_set bl v (by omega) k1
        refine ih f _ _ ?_ ?_ ?_ ?_ ?_ ?_ h8
        · rw [List.length_set]; exact h1
        · rw [List.length_set]; exact h2
        · have he := net_edge c hv i hk2
          show (if (c.eds.getD i default).a.toNat = v then (c.eds.getD i default).b.toNat else (c.eds.getD i default).a.toNat) < _
          split <;> omega
        · exact (pf_set pl i _ (by omega)).symm
        · exact (bf_set bl v (by omega)).symm
        · omega
theorem pushedM_none (c : Cas) (hv : Valid c) (ws : List Int) (ht : tornK ws c.eds.length = false) (p : List Int) (hp : p.length = 8) (h : pushedM c ws p = none) : ∃ x, Ag (sysC c ws) x ∧ bndC c ws p = costF (sysC c ws) x := by
  unfold pushedM at h
  rw [firstSm_none] at h
  obtain ⟨x, h1, h2⟩ := net_stuck (netC c ws) (net_ok c hv ws ht) (pfI p) (fun s hs u q b hr => by
    rw [← bndC_net c hv]
    exact pushM_none c hv ws _ hr 6 p no5 hp rfl hs rfl (by funext j; unfold noB bfB no5; match j with | 0 => rfl | 1 => rfl | 2 => rfl | 3 => rfl | 4 => rfl | j + 5 => rfl) (by decide) (h s (Nat.zero_le _) (by have h9 : s < c.shs.length := hs; omega)))
  exact ⟨x, (ag_net c ws x).2 h1, by rw [bndC_net c hv]; exact h2⟩
theorem proofGo_spec (c : Cas) (ws : List Int) : ∀ (g : Nat) (p r : List Int) (K : Int), 0 ≤ K → PuB K p → p.length = 8 → proofGo c ws g p = some r → r.length = 8 ∧ PuB (K + 6 * g) r ∧ (dearC c < bndC c ws r ∨ pushedM c ws r = none) := by
  intro g
  induction g with
  | zero => intro p r K _ _ _ h; cases h
  | succ g ih =>
    intro p r K hK hp hl h
    simp only [proofGo] at h
    split at h
    · cases hm : pushedM c ws p with
      | none =>
        rw [hm] at h
        simp only [Option.some.injEq] at h
        subst h
        exact ⟨hl, fun i => by have := hp i; push_cast; omega, .inr hm⟩
      | some q =>
        rw [hm] at h
        obtain ⟨_, h2, h3⟩ := pushedM_some c ws p q K hK hp hm
        obtain ⟨k1, k2, k3⟩ := ih q r (K + 6) (by omega) h3 (by omega) h
        exact ⟨k1, fun i => by have := k2 i; push_cast; omega, k3⟩
    · simp only [Option.some.injEq] at h
      subst h
      exact ⟨hl, fun i => by have := hp i; push_cast; omega, .inl (by omega)⟩
theorem proof_spec (c : Cas) (hv : Valid c) (ht : tornK (wsC c) c.eds.length = false) : ∃ r, proofGo c (wsC c) 700 z8 = some r ∧ r.length = 8 ∧ PuB 4200 r ∧ (dearC c < bndC c (wsC c) r ∨ ∃ x, Ag (sysC c (wsC c)) x ∧ bndC c (wsC c) r = costF (sysC c (wsC c)) x) := by
  have hd := dearK_bd c.shs hv.sh c.shs.length (Nat.le_refl _)
  have h5 := hv.n5
  obtain ⟨r, hr⟩ := proof_ends c (wsC c) 700 z8 0 (Int.le_refl _) (fun i => by rw [z8_get]; omega) rfl (by rw [bnd_z8 c hv]; unfold dearC; omega)
  obtain ⟨h1, h2, h3⟩ := proofGo_spec c (wsC c) 700 z8 r 0 (Int.le_refl _) (fun i => by rw [z8_get]; omega) rfl hr
  refine ⟨r, hr, h1, fun i => by have := h2 i; omega, ?_⟩
  rcases h3 with h3 | h3
  · exact .inl h3
  · exact .inr (pushedM_none c hv _ ht r h1 h3)
end Go.Proofs.Ythhlakodnpopmaa
namespace Go.Proofs.Ythhlakodnpopmaa
open Go Go.RowKit Go.Shelf Ed

set_option maxRecDepth 100000 in
set_option maxHeartbeats 4000000 in
theorem rdearest_any (c : Cas) (hv : Valid c) (sv ev : Value) (w : World) (hC : CasAt w c sv ev) :
    Calls Try.prog 42 #[.agg #[.int .i64 c.tol, sv, ev]] w fun e w' => e = .returned (.int .i64 (dearC c)) ∧ Below w.heap.size w w' := by
  obtain ⟨m, hm⟩ : ∃ m, c.shs.length = m := ⟨_, rfl⟩
  obtain ⟨hS, _⟩ := id hC
  obtain ⟨_, sa, sc, rfl, _⟩ := id hS
  have m5 := hv.n5
  have hbk := dearK_bd c.shs hv.sh
  rw [hm] at hS m5 hbk ⊢
  obtain ⟨tol, htol⟩ : ∃ t, c.tol = t := ⟨_, rfl⟩
  rw [htol]
  obtain ⟨W, hW⟩ : ∃ W, w.alloc (Obj.cells #[.int .i64 tol, .slice sa m sc, ev] 25) = W := ⟨_, rfl⟩
  have hb : Below w.heap.size w W := by rw [← hW]; exact (Below.refl _ _).alloc (Nat.le_refl _) _
  have HR : Hid (W.heap[w.heap.size]? = some (Obj.cells #[.int .i64 tol, .slice sa m sc, ev] 25)) := by show _ = _; rw [← hW]; exact heap_alloc_new w _
  have HSS := Lib.hid (hS.below hb)
  have HW := Lib.hid hW
  have HB := Lib.hid hb
  have HV := Lib.hid hv
  have HBK := Lib.hid hbk
  have HM := Lib.hid hm
  have HRES : Hid (dearC c = dearK c.shs m) := by show _ = _; unfold dearC; rw [hm]
  rw [HRES.out]
  have mI : (m : Int) ≤ 5 := by omega
  clear hW hb hS hC hv hm hbk htol HRES
  go_enter Try.func42, Try.ntmps42
  go_wp2_with fail
  rw [HW.out]
  go_loopg [3, 4] m (fun gh cv i wr => ∃ k : Nat, gh + k = m ∧ i = .int .i64 (k : Int) ∧ cv = .int .i64 (dearK c.shs k) ∧ Hid (Below W.heap.size W wr))
  case atStart => exact ⟨0, by omega, rfl, rfl, Below.refl _ _⟩
  case round =>
    obtain ⟨k, hk, rfl, rfl, HBB⟩ := hrel
    have R1 := Lib.hid ((HBB.out.block _ (lt_of_block HR.out)).trans HR.out)
    have c1 := cellOf R1.out 1 _ rfl
    have cl := lt_of_block R1.out
    by_cases hlt : k < m
    · have kI : (k : Int) < (m : Int) := by omega
      have hkm : k < c.shs.length := by rw [HM.out]; omega
      obtain ⟨sb, so, rfl, d0, d1, d2⟩ := (HSS.out.below HBB.out).get hkm
      have hsk := HV.out.sh c.shs[k] (List.getElem_mem hkm)
      have hcs := HBK.out k (by omega)
      have HST : Hid (dearK c.shs (k + 1) = dearK c.shs k + c.shs[k].wt * c.shs[k].most) := dearK_succ _ _ hkm
      obtain ⟨w0, w20, m0, m6⟩ := hsk
      generalize dearK c.shs k = ck at *
      generalize c.shs[k] = s at *
      obtain ⟨nm, wt, most⟩ := s
      simp only at d0 d1 d2 w0 w20 m0 m6 HST
      have hmul := mul_in (a := wt) (b := most) (A := 20) (B := 6) (by omega) (by omega) (by omega) (by omega)
      have s1 : IntKind.i64.wrap (wt * most) = wt * most := by rw [IntKind.wrap_i64] <;> omega
      have s2 : IntKind.i64.wrap (ck + wt * most) = ck + wt * most := by rw [IntKind.wrap_i64] <;> omega
      clear hkm
      generalize hwz : wt * most = wz at *
      go_wp2_with fail
      go_quiet (fail)
      have HBN : Hid (Below W.heap.size W (wr.drewN nq)) := HBB.out.trans ⟨rfl, rfl, rfl, Nat.le_refl _, fun _ _ => rfl⟩
      clear d0 d1 d2 c1 cl
      go_wp2
      go_roundg (gk - 1)
      case measure => omega
      case rel => exact ⟨k + 1, by omega, by go_num, by rw [HST.out], HBN⟩
    · have kI : ¬ (k : Int) < (m : Int) := by omega
      obtain rfl : k = m := by omega
      clear hlt hk
      go_wp2
      go_ret
      exact ⟨rfl, HB.out.trans (HBB.out.mono HB.out.size)⟩
theorem wL_ws (c : Cas) (i : Nat) (hi : i < c.eds.length) (h8 : c.eds.length ≤ 8) : wL (wsC c) i = wantF c i := by
  have h2 := wsTo_get (wantF c) c.eds.length i hi h8
  exact Prod.ext h2.1 h2.2
theorem torn_no (c : Cas) (h8 : c.eds.length ≤ 8) (h : ∀ j, j < c.eds.length → (wantF c j).1 ≤ (wantF c j).2) : tornK (wsC c) c.eds.length = false := by
  unfold tornK
  rw [List.any_eq_false]
  intro i hi
  have hi' := List.mem_range.1 hi
  have := h i hi'
  rw [wL_ws c i hi' h8]
  simp
  omega
theorem torn_yes (c : Cas) (h8 : c.eds.length ≤ 8) (k : Nat) (hk : k < c.eds.length) (h : ¬ (wantF c k).1 ≤ (wantF c k).2) : tornK (wsC c) c.eds.length = true := by
  unfold tornK
  rw [List.any_eq_true]
  exact ⟨k, List.mem_range.2 hk, by rw [wL_ws c k hk h8]; simp; omega⟩
set_option maxRecDepth 100000 in
set_option maxHeartbeats 4000000 in
theorem rsound_any (c : Cas) (hv : Valid c) (sv ev : Value) (w : World) (hC : CasAt w c sv ev) :
    Calls Try.prog 41 #[.agg #[.int .i64 c.tol, sv, ev]] w fun e w' => e = .returned (.bool (!tornK (wsC c) c.eds.length)) ∧ Below w.heap.size w w' := by
  obtain ⟨m, hm⟩ : ∃ m, c.eds.length = m := ⟨_, rfl⟩
  obtain ⟨tol, htol⟩ : ∃ t, c.tol = t := ⟨_, rfl⟩
  obtain ⟨_, hE⟩ := id hC
  obtain ⟨_, ea, ec, rfl, _⟩ := id hE
  have m8 := hv.m8
  rw [hm] at hE m8 ⊢
  rw [htol]
  obtain ⟨W, hW⟩ : ∃ W, w.alloc (Obj.cells #[.int .i64 tol, sv, .slice ea m ec] 25) = W := ⟨_, rfl⟩
  have hb : Below w.heap.size w W := by rw [← hW]; exact (Below.refl _ _).alloc (Nat.le_refl _) _
  have HR : Hid (W.heap[w.heap.size]? = some (Obj.cells #[.int .i64 tol, sv, .slice ea m ec] 25)) := by show _ = _; rw [← hW]; exact heap_alloc_new w _
  have HEE := Lib.hid (hE.below hb)
  have HW := Lib.hid hW
  have HB := Lib.hid hb
  have HV := Lib.hid hv
  have HM := Lib.hid hm
  have HTOL := Lib.hid htol
  have mI : (m : Int) ≤ 8 := by omega
  have HYES : Hid (∀ k, k < m → ¬ (wantF c k).1 ≤ (wantF c k).2 → tornK (wsC c) m = true) := fun k hk h => by rw [← hm] at hk ⊢; exact torn_yes c (by omega) k hk h
  have HNO : Hid ((∀ j, j < m → (wantF c j).1 ≤ (wantF c j).2) → tornK (wsC c) m = false) := fun h => by rw [← hm] at h ⊢; exact torn_no c (by omega) h
  obtain ⟨res, hres⟩ : ∃ r, tornK (wsC c) m = r := ⟨_, rfl⟩
  rw [hres] at HYES HNO ⊢
  clear hW hb hE hv hm hC htol hres
  go_enter Try.func41, Try.ntmps41
  go_wp2_with fail
  rw [HW.out]
  go_loopg [3, 4, 5] m (fun gh i v4 v5 wr => ∃ k : Nat, gh + k = m ∧ i = .int .i64 (k : Int) ∧ Hid (∀ j, j < k → (wantF c j).1 ≤ (wantF c j).2) ∧ Hid (Below W.heap.size W wr))
  case atStart => exact ⟨0, by omega, rfl, fun j hj => absurd hj (Nat.not_lt_zero _), Below.refl _ _⟩
  case round =>
    obtain ⟨k, hk, rfl, HZ, HBB⟩ := hrel
    have R1 := Lib.hid ((HBB.out.block _ (lt_of_block HR.out)).trans HR.out)
    have c0 := cellOf R1.out 0 _ rfl
    have c1 := cellOf R1.out 1 _ rfl
    have c2 := cellOf R1.out 2 _ rfl
    have cl := lt_of_block R1.out
    by_cases hlt : k < m
    · have kI : (k : Int) < (m : Int) := by omega
      have hkm : k < c.eds.length := by rw [HM.out]; omega
      obtain ⟨eb, eo, pa, pc, rfl, d0, d1, d2, hpp⟩ := (HEE.out.below HBB.out).get hkm
      have hed := HV.out.ed _ (List.getElem_mem hkm)
      have HWK : Hid (wantF c k = wantS tol c.eds[k].pts) := by show _ = _; unfold wantF; rw [getD_lt _ _ hkm, HTOL.out]
      have HF : Hid (∀ W', Below wr.heap.size wr W' → Calls Try.prog 56 #[.agg #[.int .i64 tol, sv, .slice (some ⟨eb, eo, none⟩) m ec], .agg #[.int .i64 c.eds[k].a, .int .i64 c.eds[k].b, .slice pa c.eds[k].pts.length pc]] W' fun e w' => e = .returned (.tuple #[.agg #[.int .i64 (wantS tol c.eds[k].pts).1, .int .i64 (wantS tol c.eds[k].pts).2], .bool (decide ((wantS tol c.eds[k].pts).1 ≤ (wantS tol c.eds[k].pts).2))]) ∧ Below W'.heap.size W' w') := fun W' hb => by
        have h := rwant_any c.tol sv (.slice (some ⟨eb, eo, none⟩) m ec) (.slice pa c.eds[k].pts.length pc) c.eds[k].a c.eds[k].b c.eds[k].pts W' HV.out.t0 HV.out.t50 hed.pt hed.p1 hed.p4 (hpp.below hb)
        rw [HTOL.out] at h
        exact h
      generalize wantS tol c.eds[k].pts = s at *
      generalize c.eds[k] = d at *
      obtain ⟨da, db, ps⟩ := d
      obtain ⟨lo, hi⟩ := s
      simp only at d0 d1 d2 HF HWK
      obtain ⟨np, hnp⟩ : ∃ np, ps.length = np := ⟨_, rfl⟩
      rw [hnp] at d2 HF
      clear hed hpp hnp hkm
      go_wp2_with fail
      go_cut [4, 5] from 6 to 24 (fun v b wx => b = .bool (decide (lo ≤ hi)) ∧ Hid (Below wr.heap.size wr wx))
      case first =>
        have KA : ∀ W' : World, Below wr.heap.size wr W' → (W'.cell? ⟨w.heap.size, 0, none⟩ = some (.int .i64 tol) ∧ W'.cell? ⟨w.heap.size, 1, none⟩ = some (sv) ∧ W'.cell? ⟨w.heap.size, 2, none⟩ = some (.slice (some ⟨eb, eo, none⟩) m ec) ∧ W'.cell? ⟨eb, eo + k * 3, none⟩ = some (.int .i64 da) ∧ W'.cell? ⟨eb, eo + k * 3 + 1, none⟩ = some (.int .i64 db) ∧ W'.cell? ⟨eb, eo + k * 3 + 2, none⟩ = some (.slice pa np pc) ∧ Below wr.heap.size wr W') := fun W' hb => ⟨keepK c0 hb, keepK c1 hb, keepK c2 hb, keepK d0 hb, keepK d1 hb, keepK d2 hb, hb⟩
        refine wp_region_noPanic ?_
        refine wp_region_held_drew (S := (fun W' => W'.cell? ⟨w.heap.size, 0, none⟩ = some (.int .i64 tol) ∧ W'.cell? ⟨w.heap.size, 1, none⟩ = some (sv) ∧ W'.cell? ⟨w.heap.size, 2, none⟩ = some (.slice (some ⟨eb, eo, none⟩) m ec) ∧ W'.cell? ⟨eb, eo + k * 3, none⟩ = some (.int .i64 da) ∧ W'.cell? ⟨eb, eo + k * 3 + 1, none⟩ = some (.int .i64 db) ∧ W'.cell? ⟨eb, eo + k * 3 + 2, none⟩ = some (.slice pa np pc) ∧ Below wr.heap.size wr W')) (by kernel_rfl) ?_ (fun hh0 => ?_)
        · exact KA _ (Below.refl _ _).drew
        refine wpAnyH_take (i := 0) (v := ?_) rfl (by as_aux_lemma => kernel_rfl) (by as_aux_lemma => kernel_rfl) (by as_aux_lemma => kernel_rfl) (fun _ _ _ h => h) (Or.inl ⟨by rfl, ?_⟩) (by assumption) ?_
        rotate_left
        · intro w hSw
          try dsimp only at hSw
          go_simp
          try with_reducible rfl
        try simp only [Act.put, List.getElem_toArray, List.getElem_cons_succ, List.getElem_cons_zero, List.setIfInBounds_toArray, List.set_cons_zero, List.set_cons_succ]
        refine wpAnyH_take (i := 1) (v := ?_) rfl (by as_aux_lemma => kernel_rfl) (by as_aux_lemma => kernel_rfl) (by as_aux_lemma => kernel_rfl) (fun _ _ _ h => h) (Or.inl ⟨by rfl, ?_⟩) (by assumption) ?_
        rotate_left
        · intro w hSw
          try dsimp only at hSw
          go_simp
          try with_reducible rfl
        try simp only [Act.put, List.getElem_toArray, List.getElem_cons_succ, List.getElem_cons_zero, List.setIfInBounds_toArray, List.set_cons_zero, List.set_cons_succ]
        refine wpAnyH_take (i := 2) (v := ?_) rfl (by as_aux_lemma => kernel_rfl) (by as_aux_lemma => kernel_rfl) (by as_aux_lemma => kernel_rfl) (fun _ _ _ h => h) (Or.inl ⟨by rfl, ?_⟩) (by assumption) ?_
        rotate_left
        · intro w hSw
          try dsimp only at hSw
          go_simp
          try with_reducible rfl
        try simp only [Act.put, List.getElem_toArray, List.getElem_cons_succ, List.getElem_cons_zero, List.setIfInBounds_toArray, List.set_cons_zero, List.set_cons_succ]
        refine wpAnyH_take (i := 3) (v := ?_) rfl (by as_aux_lemma => kernel_rfl) (by as_aux_lemma => kernel_rfl) (by as_aux_lemma => kernel_rfl) (fun _ _ _ h => h) (Or.inl ⟨by rfl, ?_⟩) (by assumption) ?_
        rotate_left
        · intro w hSw
          try dsimp only at hSw
          go_simp
          try with_reducible rfl
        try simp only [Act.put, List.getElem_toArray, List.getElem_cons_succ, List.getElem_cons_zero, List.setIfInBounds_toArray, List.set_cons_zero, List.set_cons_succ]
        refine wpAnyH_take (i := 4) (v := ?_) rfl (by as_aux_lemma => kernel_rfl) (by as_aux_lemma => kernel_rfl) (by as_aux_lemma => kernel_rfl) (fun _ _ _ h => h) (Or.inl ⟨by rfl, ?_⟩) (by assumption) ?_
        rotate_left
        · intro w hSw
          try dsimp only at hSw
          go_simp
          try with_reducible rfl
        try simp only [Act.put, List.getElem_toArray, List.getElem_cons_succ, List.getElem_cons_zero, List.setIfInBounds_toArray, List.set_cons_zero, List.set_cons_succ]
        refine wpAnyH_take (i := 5) (v := ?_) rfl (by as_aux_lemma => kernel_rfl) (by as_aux_lemma => kernel_rfl) (by as_aux_lemma => kernel_rfl) (fun _ _ _ h => h) (Or.inl ⟨by rfl, ?_⟩) (by assumption) ?_
        rotate_left
        · intro w hSw
          try dsimp only at hSw
          go_simp
          try with_reducible rfl
        try simp only [Act.put, List.getElem_toArray, List.getElem_cons_succ, List.getElem_cons_zero, List.setIfInBounds_toArray, List.set_cons_zero, List.set_cons_succ]
        refine wpAnyH_ready (rs := [6, 10]) (by as_aux_lemma => kernel_rfl) (by simp) ?_
        refine AllReadyH.cons rfl (fun K hK => ?_) (AllReadyH.cons rfl (fun K hK => ?_) AllReadyH.nil)
        · skip
          go_simp
          refine (HF.out _ hh0.2.2.2.2.2.2).mono ?_
          rintro e w8 ⟨rfl, hb8⟩
          refine hK.out _ _ (KA _ (Below.trans hh0.2.2.2.2.2.2 (Below.mono hb8 (hh0.2.2.2.2.2.2).size))) (fun hh1 => ?_)
          clear hK K
          try simp only [Act.put, List.getElem_toArray, List.getElem_cons_succ, List.getElem_cons_zero, List.setIfInBounds_toArray, List.set_cons_zero, List.set_cons_succ]
          refine wpAnyH_take (i := 7) (v := ?_) rfl (by as_aux_lemma => kernel_rfl) (by as_aux_lemma => kernel_rfl) (by as_aux_lemma => kernel_rfl) (fun _ _ _ h => h) (Or.inl ⟨by rfl, ?_⟩) (by assumption) ?_
          rotate_left
          · intro w hSw
            try dsimp only at hSw
            go_simp
            try with_reducible rfl
          try simp only [Act.put, List.getElem_toArray, List.getElem_cons_succ, List.getElem_cons_zero, List.setIfInBounds_toArray, List.set_cons_zero, List.set_cons_succ]
          refine wpAnyH_take (i := 8) (v := ?_) rfl (by as_aux_lemma => kernel_rfl) (by as_aux_lemma => kernel_rfl) (by as_aux_lemma => kernel_rfl) (fun _ _ _ h => h) (Or.inl ⟨by rfl, ?_⟩) (by assumption) ?_
          rotate_left
          · intro w hSw
            try dsimp only at hSw
            go_simp
            try with_reducible rfl
          try simp only [Act.put, List.getElem_toArray, List.getElem_cons_succ, List.getElem_cons_zero, List.setIfInBounds_toArray, List.set_cons_zero, List.set_cons_succ]
          refine wpAnyH_take (i := 9) (v := ?_) rfl (by as_aux_lemma => kernel_rfl) (by as_aux_lemma => kernel_rfl) (by as_aux_lemma => kernel_rfl) (fun _ _ _ h => h) (Or.inl ⟨by rfl, ?_⟩) (by assumption) ?_
          rotate_left
          · intro w hSw
            try dsimp only at hSw
            go_simp
            try with_reducible rfl
          try simp only [Act.put, List.getElem_toArray, List.getElem_cons_succ, List.getElem_cons_zero, List.setIfInBounds_toArray, List.set_cons_zero, List.set_cons_succ]
          refine wpAnyH_ready (rs := [10]) (by as_aux_lemma => kernel_rfl) (by simp) ?_
          refine AllReadyH.cons rfl (fun K hK => ?_) AllReadyH.nil
          go_simp
          refine hK.out _ _ (KA _ ((hh1.2.2.2.2.2.2).alloc (hh1.2.2.2.2.2.2).size _)) (fun hh2 => ?_)
          clear hK K
          try simp only [Act.put, List.getElem_toArray, List.getElem_cons_succ, List.getElem_cons_zero, List.setIfInBounds_toArray, List.set_cons_zero, List.set_cons_succ]
          refine wpAnyH_ready (rs := [11]) (by as_aux_lemma => kernel_rfl) (by simp) ?_
          refine AllReadyH.cons rfl (fun K hK => ?_) AllReadyH.nil
          go_simp
          refine hK.out _ _ ?_ (fun hh3 => ?_)
          · first | exact KA _ (two_below hh2.2.2.2.2.2.2 (by omega)) | exact KA _ ((hh2.2.2.2.2.2.2).setCell (by simp; omega) _) | exact KA _ ((hh0.2.2.2.2.2.2).alloc (hh0.2.2.2.2.2.2).size _) | exact KA _ ((hh1.2.2.2.2.2.2).alloc (hh1.2.2.2.2.2.2).size _)
          clear hK K
          try simp only [Act.put, List.getElem_toArray, List.getElem_cons_succ, List.getElem_cons_zero, List.setIfInBounds_toArray, List.set_cons_zero, List.set_cons_succ]
          refine wpAnyH_ready (rs := [12]) (by as_aux_lemma => kernel_rfl) (by simp) ?_
          refine AllReadyH.cons rfl (fun K hK => ?_) AllReadyH.nil
          go_simp
          refine hK.out _ _ hh3 (fun hh4 => ?_)
          clear hK K
          try simp only [Act.put, List.getElem_toArray, List.getElem_cons_succ, List.getElem_cons_zero, List.setIfInBounds_toArray, List.set_cons_zero, List.set_cons_succ]
          refine wpAnyH_done (by as_aux_lemma => kernel_rfl) ?_ _
          refine NoPanic.normal ?_
          have HBZ := Lib.hid (hh4.2.2.2.2.2.2)
          go_wp2_with fail
          go_meet
          case rel => exact ⟨rfl, HBZ⟩
        · skip
          go_simp
          refine hK.out _ _ (KA _ ((hh0.2.2.2.2.2.2).alloc (hh0.2.2.2.2.2.2).size _)) (fun hh1 => ?_)
          clear hK K
          try simp only [Act.put, List.getElem_toArray, List.getElem_cons_succ, List.getElem_cons_zero, List.setIfInBounds_toArray, List.set_cons_zero, List.set_cons_succ]
          refine wpAnyH_ready (rs := [6]) (by as_aux_lemma => kernel_rfl) (by simp) ?_
          refine AllReadyH.cons rfl (fun K hK => ?_) AllReadyH.nil
          go_simp
          refine (HF.out _ hh1.2.2.2.2.2.2).mono ?_
          rintro e w8 ⟨rfl, hb8⟩
          have z8 := (hb8.block wr.heap.size (by simp)).trans (heap_alloc_new wr.drew (Obj.cells #[.int .i64 0, .int .i64 0] 31))
          have y0 := cellOf z8 0 _ rfl
          have y1 := cellOf z8 1 _ rfl
          have g0 := frozen_of_row _ _ 0 _ _ z8
          have g1 := frozen_of_row _ _ 1 _ _ z8
          have zl := lt_of_block z8
          refine hK.out _ _ (KA _ (Below.trans hh1.2.2.2.2.2.2 (Below.mono hb8 (hh1.2.2.2.2.2.2).size))) (fun hh2 => ?_)
          clear hK K
          try simp only [Act.put, List.getElem_toArray, List.getElem_cons_succ, List.getElem_cons_zero, List.setIfInBounds_toArray, List.set_cons_zero, List.set_cons_succ]
          refine wpAnyH_take (i := 7) (v := ?_) rfl (by as_aux_lemma => kernel_rfl) (by as_aux_lemma => kernel_rfl) (by as_aux_lemma => kernel_rfl) (fun _ _ _ h => h) (Or.inl ⟨by rfl, ?_⟩) (by assumption) ?_
          rotate_left
          · intro w hSw
            try dsimp only at hSw
            go_simp
            try with_reducible rfl
          try simp only [Act.put, List.getElem_toArray, List.getElem_cons_succ, List.getElem_cons_zero, List.setIfInBounds_toArray, List.set_cons_zero, List.set_cons_succ]
          refine wpAnyH_take (i := 8) (v := ?_) rfl (by as_aux_lemma => kernel_rfl) (by as_aux_lemma => kernel_rfl) (by as_aux_lemma => kernel_rfl) (fun _ _ _ h => h) (Or.inl ⟨by rfl, ?_⟩) (by assumption) ?_
          rotate_left
          · intro w hSw
            try dsimp only at hSw
            go_simp
            try with_reducible rfl
          try simp only [Act.put, List.getElem_toArray, List.getElem_cons_succ, List.getElem_cons_zero, List.setIfInBounds_toArray, List.set_cons_zero, List.set_cons_succ]
          refine wpAnyH_take (i := 9) (v := ?_) rfl (by as_aux_lemma => kernel_rfl) (by as_aux_lemma => kernel_rfl) (by as_aux_lemma => kernel_rfl) (fun _ _ _ h => h) (Or.inl ⟨by rfl, ?_⟩) (by assumption) ?_
          rotate_left
          · intro w hSw
            try dsimp only at hSw
            go_simp
            try with_reducible rfl
          try simp only [Act.put, List.getElem_toArray, List.getElem_cons_succ, List.getElem_cons_zero, List.setIfInBounds_toArray, List.set_cons_zero, List.set_cons_succ]
          refine wpAnyH_ready (rs := [11]) (by as_aux_lemma => kernel_rfl) (by simp) ?_
          refine AllReadyH.cons rfl (fun K hK => ?_) AllReadyH.nil
          go_simp
          refine hK.out _ _ ?_ (fun hh3 => ?_)
          · first | exact KA _ (two_below hh2.2.2.2.2.2.2 (by omega)) | exact KA _ ((hh2.2.2.2.2.2.2).setCell (by simp; omega) _) | exact KA _ ((hh0.2.2.2.2.2.2).alloc (hh0.2.2.2.2.2.2).size _) | exact KA _ ((hh1.2.2.2.2.2.2).alloc (hh1.2.2.2.2.2.2).size _)
          clear hK K
          try simp only [Act.put, List.getElem_toArray, List.getElem_cons_succ, List.getElem_cons_zero, List.setIfInBounds_toArray, List.set_cons_zero, List.set_cons_succ]
          refine wpAnyH_ready (rs := [12]) (by as_aux_lemma => kernel_rfl) (by simp) ?_
          refine AllReadyH.cons rfl (fun K hK => ?_) AllReadyH.nil
          go_simp
          refine hK.out _ _ hh3 (fun hh4 => ?_)
          clear hK K
          try simp only [Act.put, List.getElem_toArray, List.getElem_cons_succ, List.getElem_cons_zero, List.setIfInBounds_toArray, List.set_cons_zero, List.set_cons_succ]
          refine wpAnyH_done (by as_aux_lemma => kernel_rfl) ?_ _
          refine NoPanic.normal ?_
          have HBZ := Lib.hid (hh4.2.2.2.2.2.2)
          go_wp2_with fail
          go_meet
          case rel => exact ⟨rfl, HBZ⟩
      case rest =>
        obtain ⟨rfl, hbw⟩ := hcut
        have HL8 := Lib.hid (HBB.out.trans (hbw.out.mono HBB.out.size))
        clear c0 c1 c2 cl d0 d1 d2 HF hbw R1
        by_cases hle : lo ≤ hi
        · have td : decide (lo ≤ hi) = true := by simp; omega
          rw [td]
          have HZ2 : Hid (∀ j, j < k + 1 → (wantF c j).1 ≤ (wantF c j).2) := fun j hj => by
            by_cases e : j = k
            · subst e; rw [HWK.out]; exact hle
            · exact HZ.out j (by omega)
          clear HZ HWK hle td
          go_wp2
          go_roundg (gk - 1)
          case measure => omega
          case rel => exact ⟨k + 1, by omega, by go_num, HZ2, HL8⟩
        · have td : decide (lo ≤ hi) = false := by simp; omega
          have hr := HYES.out k (by omega) (by rw [HWK.out]; simp only; omega)
          subst hr
          rw [td]
          clear hle td HWK
          go_wp2
          go_ret
          exact ⟨rfl, HB.out.trans (HL8.out.mono HB.out.size)⟩
    · have kI : ¬ (k : Int) < (m : Int) := by omega
      obtain rfl : k = m := by omega
      have hr := HNO.out HZ.out
      subst hr
      clear hlt hk
      go_wp2
      go_ret
      exact ⟨rfl, HB.out.trans (HBB.out.mono HB.out.size)⟩
end Go.Proofs.Ythhlakodnpopmaa
namespace Go.Proofs.Ythhlakodnpopmaa
open Go Go.RowKit Go.Shelf Ed

def givN (c : Cas) (l : List Int) (k : Nat) : List Int := (givTo c.eds l k).take c.shs.length
theorem made_z5 (n : Nat) (h : n ≤ 5) : (madeCells #[Value.int .i64 0] n).toList = (z5.take n).map (Value.int .i64) := by
  apply List.ext_getElem?
  intro j
  by_cases hj : j < n
  · have e1 : (madeCells #[Value.int .i64 0] n).toList[j]? = some (.int .i64 0) := by simp [madeCells, hj, Nat.mod_one]
    rw [e1, List.getElem?_map, List.getElem?_take, if_pos hj]
    match j, show j < 5 by omega with
    | 0, _ => rfl
    | 1, _ => rfl
    | 2, _ => rfl
    | 3, _ => rfl
    | 4, _ => rfl
  · rw [List.getElem?_eq_none (by simp [madeCells]; omega), List.getElem?_eq_none (by simp; omega)]
theorem row_get {w : World} {B g n cap k : Nat} {G : List Int} (h : w.ownsRow B 3 1 (.slice (some ⟨g, 0, none⟩) n cap) n ((G.take n).map (Value.int .i64))) (hk : k < n) (hn : n ≤ G.length) : w.cell? ⟨g, k, none⟩ = some (.int .i64 (G.getD k 0)) := by
  rw [h.cellAt k (by omega)]
  simp [List.getD_eq_getElem?_getD, hk, show k < G.length by omega]
theorem row_set {w : World} {B g n cap k : Nat} {G : List Int} (h : w.ownsRow B 3 1 (.slice (some ⟨g, 0, none⟩) n cap) n ((G.take n).map (Value.int .i64))) (y : Int) : (w.setCell ⟨g, k, none⟩ (.int .i64 y)).ownsRow B 3 1 (.slice (some ⟨g, 0, none⟩) n cap) n (((G.set k y).take n).map (Value.int .i64)) := by
  have h1 := (h.stored k (.int .i64 y)).1
  rw [← List.map_set, ← List.take_set] at h1
  exact h1
set_option maxRecDepth 100000 in
set_option maxHeartbeats 8000000 in
theorem rgiven_any (c : Cas) (hv : Valid c) (sv ev lv : Value) (l : List Int) (w : World) (hC : CasAt w c sv ev) (hL : IntsAt w lv l) (hl : l.length = c.eds.length) (hbd : PuBd l) :
    Calls Try.prog 68 #[.agg #[.int .i64 c.tol, sv, ev], lv] w fun e w' => ∃ v, e = .returned v ∧ IntsAt w' v (givN c l c.eds.length) ∧ Below w.heap.size w w' := by
  obtain ⟨n, hn⟩ : ∃ n, c.shs.length = n := ⟨_, rfl⟩
  obtain ⟨m, hm⟩ : ∃ m, c.eds.length = m := ⟨_, rfl⟩
  obtain ⟨tol, htol⟩ : ∃ t, c.tol = t := ⟨_, rfl⟩
  obtain ⟨hS, hE⟩ := id hC
  obtain ⟨_, sa, sc, rfl, _⟩ := id hS
  obtain ⟨_, ea, ec, rfl, _⟩ := id hE
  obtain ⟨_, la, lc, rfl, _⟩ := id hL
  obtain ⟨i0, hi0⟩ := info_of_underlying Try.underlying3
  have HI : Hid (i0.zero = some (.int .i64 0) ∧ i0.size = 1 ∧ i0.bytes = 8) := by
    have h := intInfo
    rw [hi0] at h
    simp at h
    exact h
  have m8 := hv.m8
  have n5 := hv.n5
  have hgb := givTo_bd c.eds l hbd (fun k hk => by
    have h := hv.ed _ (List.getElem_mem hk)
    rw [getD_lt _ _ hk]
    have := h.a0; have := h.b0; have := h.ne
    omega)
  rw [hm] at hE m8 hgb ⊢
  rw [hn] at n5 ⊢
  rw [hl, hm] at hL ⊢
  rw [htol]
  obtain ⟨W, hW⟩ : ∃ W, w.alloc (Obj.cells #[.int .i64 tol, .slice sa n sc, .slice ea m ec] 25) = W := ⟨_, rfl⟩
  have hb : Below w.heap.size w W := by rw [← hW]; exact (Below.refl _ _).alloc (Nat.le_refl _) _
  have HR : Hid (W.heap[w.heap.size]? = some (Obj.cells #[.int .i64 tol, .slice sa n sc, .slice ea m ec] 25)) := by show _ = _; rw [← hW]; exact heap_alloc_new w _
  have HEE := Lib.hid (hE.below hb)
  have HLL := Lib.hid (hL.below hb)
  have HW := Lib.hid hW
  have HB := Lib.hid hb
  have HV := Lib.hid hv
  have HBD := Lib.hid hbd
  have HGB := Lib.hid hgb
  have HN := Lib.hid hn
  have HM := Lib.hid hm
  have HLM : Hid (l.length = m) := by show _ = _; rw [hl, hm]
  have nI : (n : Int) ≤ 5 := by omega
  have mI : (m : Int) ≤ 8 := by omega
  clear hW hb hS hE hL hv hbd hn hm hC hl htol hgb
  go_enter Try.func68, Try.ntmps68
  go_wp2_with (at_make; rw [HW.out]; refine wpList_make_full _ rfl _ _ 26 rfl W.heap.size 3 i0 (.int .i64 0) 1 Try.underlying26 hi0 HI.out.1 HI.out.2.1 .i64 .i64 _ _ n rfl rfl rfl rfl ?c1 ?c2 (Nat.le_refl _) ?_)
  case c1 => rw [HI.out.2.2]; omega
  case c2 => unfold maxLen; omega
  intro w1 hown hgr
  rw [made_z5 n n5] at hown
  have hb1 : Below W.heap.size W w1 := (Below.refl W.heap.size W).grown hgr (Nat.le_refl _) (by simp)
  have HB1 := Lib.hid hb1
  have HO := Lib.hid hown
  clear hown hgr hb1 HW
  obtain ⟨g, hg⟩ : ∃ g, W.heap.size = g := ⟨_, rfl⟩
  rw [hg] at HO HB1 ⊢
  have HG0 := Lib.hid hg
  clear hg
  go_wp2_with fail
  go_loopg [6] m (fun gh i wr => ∃ k : Nat, gh + k = m ∧ i = .int .i64 (k : Int) ∧ Hid (wr.ownsRow g 3 1 (.slice (some ⟨g, 0, none⟩) n n) n (((givTo c.eds l k).take n).map (Value.int .i64))) ∧ Hid (Below g W wr))
  case atStart => exact ⟨0, by omega, rfl, HO, HB1⟩
  case round =>
    obtain ⟨k, hk, rfl, HOR, HBB⟩ := hrel
    have c2 := cellOf ((HBB.out.block _ (by rw [← HG0.out]; exact lt_of_block HR.out)).trans HR.out) 2 _ rfl
    by_cases hlt : k < m
    · have kI : (k : Int) < (m : Int) := by omega
      have hkm : k < c.eds.length := by rw [HM.out]; exact hlt
      have hkl : k < l.length := by rw [HLM.out]; exact hlt
      obtain ⟨eb, eo, pa, pc, rfl, d0, d1, d2, hpp⟩ := HEE.out.get hkm
      obtain ⟨lb, lo, rfl, e0⟩ := HLL.out.get hkl
      have hed := HV.out.ed _ (List.getElem_mem hkm)
      have hx := HBD.out k
      have HST : Hid (givTo c.eds l (k + 1) = givStep c.eds[k].a.toNat c.eds[k].b.toNat l[k] (givTo c.eds l k)) := by
        show _ = _
        simp only [givTo]
        rw [getD_lt _ _ hkm, show l.getD k 0 = l[k] by simp [List.getD_eq_getElem?_getD, hkl]]
      have hxe : l.getD k 0 = l[k] := by simp [List.getD_eq_getElem?_getD, hkl]
      rw [hxe] at hx
      have hG5 := givTo_length c.eds l k
      have hGB := HGB.out k (by omega)
      obtain ⟨xa0, xan, xb0, xbn, xne, _, _, _⟩ := hed
      rw [HN.out] at xan xbn
      clear hpp d2 hxe
      generalize c.eds[k] = d at *
      obtain ⟨da, db, ps⟩ := d
      simp only at d0 d1 HST xa0 xan xb0 xbn xne
      obtain ⟨ia, rfl⟩ : ∃ i : Nat, da = i := ⟨da.toNat, by omega⟩
      obtain ⟨ib, rfl⟩ : ∃ i : Nat, db = i := ⟨db.toNat, by omega⟩
      simp only [Int.toNat_natCast] at HST
      generalize givTo c.eds l k = G at *
      generalize l[k] = x at *
      have ian : ia < n := by omega
      have ibn : ib < n := by omega
      have iab : ia ≠ ib := by omega
      have hga := hGB ia
      have hgb' := hGB ib
      have gfe : (G.set ia (G.getD ia 0 + x)).getD ib 0 = G.getD ib 0 := by rw [getD_set, if_neg (by omega)]
      obtain ⟨va, hva⟩ : ∃ v, G.getD ia 0 = v := ⟨_, rfl⟩
      obtain ⟨vb, hvb⟩ : ∃ v, G.getD ib 0 = v := ⟨_, rfl⟩
      have HSS : Hid (givTo c.eds l (k + 1) = (G.set ia (va + x)).set ib (vb - x)) := by
        show _ = _
        rw [HST.out]
        unfold givStep
        rw [gfe, hva, hvb]
      have a0 := row_get HOR.out ian (by omega)
      have b1 := row_get (row_set (k := ia) HOR.out (va + x)) ibn (by rw [List.length_set]; omega)
      rw [← hva, gfe, hvb, hva] at b1
      rw [hva] at a0 hga
      rw [hvb] at hgb'
      have ws1 : IntKind.i64.wrap (va + x) = va + x := by rw [IntKind.wrap_i64] <;> omega
      have ws2 : IntKind.i64.wrap (vb - x) = vb - x := by rw [IntKind.wrap_i64] <;> omega
      have iaI : (ia : Int) < (n : Int) := by omega
      have ibI : (ib : Int) < (n : Int) := by omega
      have af := HOR.out.frozenAt ia
      have D0 := Lib.hid d0
      have D1 := Lib.hid d1
      have E0 := Lib.hid e0
      have B1 := Lib.hid b1
      have el : ⟨eb, eo + k * 3, none⟩ = (⟨eb, eo + k * 3, none⟩ : Addr) := rfl
      have d0l := World.block_lt_of_cell? W _ d0
      have d1l := World.block_lt_of_cell? W _ d1
      have e0l := World.block_lt_of_cell? W _ e0
      rw [HG0.out] at d0l d1l e0l
      have d0 := (HBB.out.cell (p := ⟨eb, eo + k * 3, none⟩) d0l).trans d0
      have e0 := (HBB.out.cell (p := ⟨lb, lo + k, none⟩) e0l).trans e0
      clear el hga hgb' hva hvb HST hGB hG5 gfe b1 d1 hkm hkl xa0 xan xb0 xbn xne
      go_wp2_with fail
      refine wp_region_noPanic ?_
      refine wp_region_last (S := (fun W' : World => W'.cell? ⟨w.heap.size, 2, none⟩ = some (.slice (some ⟨eb, eo, none⟩) m ec) ∧ W'.cell? ⟨eb, eo + k * 3, none⟩ = some (.int .i64 (ia : Int)) ∧ W'.cell? ⟨lb, lo + k, none⟩ = some (.int .i64 x) ∧ W'.cell? ⟨g, ia, none⟩ = some (.int .i64 va) ∧ W'.frozen? ⟨g, ia, none⟩ = false)) 22 (by kernel_rfl) (by decide) (fun inv0 => ?_)
      have hh0 := (⟨c2, d0, e0, a0, af⟩ : _ ∧ _ ∧ _ ∧ _ ∧ _)
      refine wpAnyZ_take (i := 0) (v := ?_) rfl (Lib.hid ⟨by as_aux_lemma => kernel_rfl, by as_aux_lemma => kernel_rfl, by as_aux_lemma => kernel_rfl, rfl⟩) (by decide) inv0 (by as_aux_lemma => kernel_rfl) (by as_aux_lemma => kernel_rfl) (fun _ _ _ h => h) (Or.inl ⟨by rfl, ?_⟩) hh0 (fun inv1 => ?_)
      rotate_left
      · intro w hSw
        try dsimp only at hSw
        go_simp
        try with_reducible rfl
      clear inv0
      try simp only [Act.put, List.getElem_toArray, List.getElem_cons_succ, List.getElem_cons_zero, List.setIfInBounds_toArray, List.set_cons_zero, List.set_cons_succ]
      refine wpAnyZ_take (i := 1) (v := ?_) rfl (Lib.hid ⟨by as_aux_lemma => kernel_rfl, by as_aux_lemma => kernel_rfl, by as_aux_lemma => kernel_rfl, rfl⟩) (by decide) inv1 (by as_aux_lemma => kernel_rfl) (by as_aux_lemma => kernel_rfl) (fun _ _ _ h => h) (Or.inl ⟨by rfl, ?_⟩) hh0 (fun inv2 => ?_)
      rotate_left
      · intro w hSw
        try dsimp only at hSw
        go_simp
        try with_reducible rfl
      clear inv1
      try simp only [Act.put, List.getElem_toArray, List.getElem_cons_succ, List.getElem_cons_zero, List.setIfInBounds_toArray, List.set_cons_zero, List.set_cons_succ]
      refine wpAnyZ_take (i := 2) (v := ?_) rfl (Lib.hid ⟨by as_aux_lemma => kernel_rfl, by as_aux_lemma => kernel_rfl, by as_aux_lemma => kernel_rfl, rfl⟩) (by decide) inv2 (by as_aux_lemma => kernel_rfl) (by as_aux_lemma => kernel_rfl) (fun _ _ _ h => h) (Or.inl ⟨by rfl, ?_⟩) hh0 (fun inv3 => ?_)
      rotate_left
      · intro w hSw
        try dsimp only at hSw
        go_simp
        try with_reducible rfl
      clear inv2
      try simp only [Act.put, List.getElem_toArray, List.getElem_cons_succ, List.getElem_cons_zero, List.setIfInBounds_toArray, List.set_cons_zero, List.set_cons_succ]
      refine wpAnyZ_take (i := 3) (v := ?_) rfl (Lib.hid ⟨by as_aux_lemma => kernel_rfl, by as_aux_lemma => kernel_rfl, by as_aux_lemma => kernel_rfl, rfl⟩) (by decide) inv3 (by as_aux_lemma => kernel_rfl) (by as_aux_lemma => kernel_rfl) (fun _ _ _ h => h) (Or.inl ⟨by rfl, ?_⟩) hh0 (fun inv4 => ?_)
      rotate_left
      · intro w hSw
        try dsimp only at hSw
        go_simp
        try with_reducible rfl
      clear inv3
      try simp only [Act.put, List.getElem_toArray, List.getElem_cons_succ, List.getElem_cons_zero, List.setIfInBounds_toArray, List.set_cons_zero, List.set_cons_succ]
      refine wpAnyZ_take (i := 4) (v := ?_) rfl (Lib.hid ⟨by as_aux_lemma => kernel_rfl, by as_aux_lemma => kernel_rfl, by as_aux_lemma => kernel_rfl, rfl⟩) (by decide) inv4 (by as_aux_lemma => kernel_rfl) (by as_aux_lemma => kernel_rfl) (fun _ _ _ h => h) (Or.inl ⟨by rfl, ?_⟩) hh0 (fun inv5 => ?_)
      rotate_left
      · intro w hSw
        try dsimp only at hSw
        go_simp
        try with_reducible rfl
      clear inv4
      try simp only [Act.put, List.getElem_toArray, List.getElem_cons_succ, List.getElem_cons_zero, List.setIfInBounds_toArray, List.set_cons_zero, List.set_cons_succ]
      refine wpAnyZ_take (i := 5) (v := ?_) rfl (Lib.hid ⟨by as_aux_lemma => kernel_rfl, by as_aux_lemma => kernel_rfl, by as_aux_lemma => kernel_rfl, rfl⟩) (by decide) inv5 (by as_aux_lemma => kernel_rfl) (by as_aux_lemma => kernel_rfl) (fun _ _ _ h => h) (Or.inl ⟨by rfl, ?_⟩) hh0 (fun inv6 => ?_)
      rotate_left
      · intro w hSw
        try dsimp only at hSw
        go_simp
        try with_reducible rfl
      clear inv5
      try simp only [Act.put, List.getElem_toArray, List.getElem_cons_succ, List.getElem_cons_zero, List.setIfInBounds_toArray, List.set_cons_zero, List.set_cons_succ]
      refine wpAnyZ_take (i := 6) (v := ?_) rfl (Lib.hid ⟨by as_aux_lemma => kernel_rfl, by as_aux_lemma => kernel_rfl, by as_aux_lemma => kernel_rfl, rfl⟩) (by decide) inv6 (by as_aux_lemma => kernel_rfl) (by as_aux_lemma => kernel_rfl) (fun _ _ _ h => h) (Or.inl ⟨by rfl, ?_⟩) hh0 (fun inv7 => ?_)
      rotate_left
      · intro w hSw
        try dsimp only at hSw
        go_simp
        try with_reducible rfl
      clear inv6
      try simp only [Act.put, List.getElem_toArray, List.getElem_cons_succ, List.getElem_cons_zero, List.setIfInBounds_toArray, List.set_cons_zero, List.set_cons_succ]
      refine wpAnyZ_take (i := 7) (v := ?_) rfl (Lib.hid ⟨by as_aux_lemma => kernel_rfl, by as_aux_lemma => kernel_rfl, by as_aux_lemma => kernel_rfl, rfl⟩) (by decide) inv7 (by as_aux_lemma => kernel_rfl) (by as_aux_lemma => kernel_rfl) (fun _ _ _ h => h) (Or.inl ⟨by rfl, ?_⟩) hh0 (fun inv8 => ?_)
      rotate_left
      · intro w hSw
        try dsimp only at hSw
        go_simp
        try with_reducible rfl
      clear inv7
      try simp only [Act.put, List.getElem_toArray, List.getElem_cons_succ, List.getElem_cons_zero, List.setIfInBounds_toArray, List.set_cons_zero, List.set_cons_succ]
      refine wpAnyZ_take (i := 8) (v := ?_) rfl (Lib.hid ⟨by as_aux_lemma => kernel_rfl, by as_aux_lemma => kernel_rfl, by as_aux_lemma => kernel_rfl, rfl⟩) (by decide) inv8 (by as_aux_lemma => kernel_rfl) (by as_aux_lemma => kernel_rfl) (fun _ _ _ h => h) (Or.inl ⟨by rfl, ?_⟩) hh0 (fun inv9 => ?_)
      rotate_left
      · intro w hSw
        try dsimp only at hSw
        go_simp
        try with_reducible rfl
      clear inv8
      try simp only [Act.put, List.getElem_toArray, List.getElem_cons_succ, List.getElem_cons_zero, List.setIfInBounds_toArray, List.set_cons_zero, List.set_cons_succ]
      refine wpAnyZ_take (i := 9) (v := ?_) rfl (Lib.hid ⟨by as_aux_lemma => kernel_rfl, by as_aux_lemma => kernel_rfl, by as_aux_lemma => kernel_rfl, rfl⟩) (by decide) inv9 (by as_aux_lemma => kernel_rfl) (by as_aux_lemma => kernel_rfl) (fun _ _ _ h => h) (Or.inl ⟨by rfl, ?_⟩) hh0 (fun inv10 => ?_)
      rotate_left
      · intro w hSw
        try dsimp only at hSw
        go_simp
        try with_reducible rfl
      clear inv9
      try simp only [Act.put, List.getElem_toArray, List.getElem_cons_succ, List.getElem_cons_zero, List.setIfInBounds_toArray, List.set_cons_zero, List.set_cons_succ]
      refine wpAnyZ_take (i := 10) (v := ?_) rfl (Lib.hid ⟨by as_aux_lemma => kernel_rfl, by as_aux_lemma => kernel_rfl, by as_aux_lemma => kernel_rfl, rfl⟩) (by decide) inv10 (by as_aux_lemma => kernel_rfl) (by as_aux_lemma => kernel_rfl) (fun _ _ _ h => h) (Or.inl ⟨by rfl, ?_⟩) hh0 (fun inv11 => ?_)
      rotate_left
      · intro w hSw
        try dsimp only at hSw
        go_simp
        try with_reducible rfl
      clear inv10
      try simp only [Act.put, List.getElem_toArray, List.getElem_cons_succ, List.getElem_cons_zero, List.setIfInBounds_toArray, List.set_cons_zero, List.set_cons_succ]
      refine wpAnyZ_take (i := 11) (v := ?_) rfl (Lib.hid ⟨by as_aux_lemma => kernel_rfl, by as_aux_lemma => kernel_rfl, by as_aux_lemma => kernel_rfl, rfl⟩) (by decide) inv11 (by as_aux_lemma => kernel_rfl) (by as_aux_lemma => kernel_rfl) (fun _ _ _ h => h) (Or.inl ⟨by rfl, ?_⟩) hh0 (fun inv12 => ?_)
      rotate_left
      · intro w hSw
        try dsimp only at hSw
        go_simp
        try with_reducible rfl
      clear inv11
      try simp only [Act.put, List.getElem_toArray, List.getElem_cons_succ, List.getElem_cons_zero, List.setIfInBounds_toArray, List.set_cons_zero, List.set_cons_succ]
      refine wpAnyZ_take (i := 12) (v := ?_) rfl (Lib.hid ⟨by as_aux_lemma => kernel_rfl, by as_aux_lemma => kernel_rfl, by as_aux_lemma => kernel_rfl, rfl⟩) (by decide) inv12 (by as_aux_lemma => kernel_rfl) (by as_aux_lemma => kernel_rfl) (fun _ _ _ h => h) (Or.inl ⟨by rfl, ?_⟩) hh0 (fun inv13 => ?_)
      rotate_left
      · intro w hSw
        try dsimp only at hSw
        go_simp
        try with_reducible rfl
      clear inv12
      try simp only [Act.put, List.getElem_toArray, List.getElem_cons_succ, List.getElem_cons_zero, List.setIfInBounds_toArray, List.set_cons_zero, List.set_cons_succ]
      refine wpAnyZ_take (i := 13) (v := ?_) rfl (Lib.hid ⟨by as_aux_lemma => kernel_rfl, by as_aux_lemma => kernel_rfl, by as_aux_lemma => kernel_rfl, rfl⟩) (by decide) inv13 (by as_aux_lemma => kernel_rfl) (by as_aux_lemma => kernel_rfl) (fun _ _ _ h => h) (Or.inl ⟨by rfl, ?_⟩) hh0 (fun inv14 => ?_)
      rotate_left
      · intro w hSw
        try dsimp only at hSw
        go_simp
        try with_reducible rfl
      clear inv13
      try simp only [Act.put, List.getElem_toArray, List.getElem_cons_succ, List.getElem_cons_zero, List.setIfInBounds_toArray, List.set_cons_zero, List.set_cons_succ]
      refine wpAnyZ_take (i := 14) (v := ?_) rfl (Lib.hid ⟨by as_aux_lemma => kernel_rfl, by as_aux_lemma => kernel_rfl, by as_aux_lemma => kernel_rfl, rfl⟩) (by decide) inv14 (by as_aux_lemma => kernel_rfl) (by as_aux_lemma => kernel_rfl) (fun _ _ _ h => h) (Or.inl ⟨by rfl, ?_⟩) hh0 (fun inv15 => ?_)
      rotate_left
      · intro w hSw
        try dsimp only at hSw
        go_simp
        try with_reducible rfl
      clear inv14
      try simp only [Act.put, List.getElem_toArray, List.getElem_cons_succ, List.getElem_cons_zero, List.setIfInBounds_toArray, List.set_cons_zero, List.set_cons_succ]
      refine wpAnyZ_take (i := 15) (v := ?_) rfl (Lib.hid ⟨by as_aux_lemma => kernel_rfl, by as_aux_lemma => kernel_rfl, by as_aux_lemma => kernel_rfl, rfl⟩) (by decide) inv15 (by as_aux_lemma => kernel_rfl) (by as_aux_lemma => kernel_rfl) (fun _ _ _ h => h) (Or.inl ⟨by rfl, ?_⟩) hh0 (fun inv16 => ?_)
      rotate_left
      · intro w hSw
        try dsimp only at hSw
        go_simp
        try with_reducible rfl
      clear inv15
      try simp only [Act.put, List.getElem_toArray, List.getElem_cons_succ, List.getElem_cons_zero, List.setIfInBounds_toArray, List.set_cons_zero, List.set_cons_succ]
      refine wpAnyZ_take (i := 16) (v := ?_) rfl (Lib.hid ⟨by as_aux_lemma => kernel_rfl, by as_aux_lemma => kernel_rfl, by as_aux_lemma => kernel_rfl, rfl⟩) (by decide) inv16 (by as_aux_lemma => kernel_rfl) (by as_aux_lemma => kernel_rfl) (fun _ _ _ h => h) (Or.inl ⟨by rfl, ?_⟩) hh0 (fun inv17 => ?_)
      rotate_left
      · intro w hSw
        try dsimp only at hSw
        go_simp
        try with_reducible rfl
      clear inv16
      try simp only [Act.put, List.getElem_toArray, List.getElem_cons_succ, List.getElem_cons_zero, List.setIfInBounds_toArray, List.set_cons_zero, List.set_cons_succ]
      refine wpAnyZ_take (i := 17) (v := ?_) rfl (Lib.hid ⟨by as_aux_lemma => kernel_rfl, by as_aux_lemma => kernel_rfl, by as_aux_lemma => kernel_rfl, rfl⟩) (by decide) inv17 (by as_aux_lemma => kernel_rfl) (by as_aux_lemma => kernel_rfl) (fun _ _ _ h => h) (Or.inl ⟨by rfl, ?_⟩) hh0 (fun inv18 => ?_)
      rotate_left
      · intro w hSw
        try dsimp only at hSw
        go_simp
        try with_reducible rfl
      clear inv17
      try simp only [Act.put, List.getElem_toArray, List.getElem_cons_succ, List.getElem_cons_zero, List.setIfInBounds_toArray, List.set_cons_zero, List.set_cons_succ]
      refine wpAnyZ_take (i := 18) (v := ?_) rfl (Lib.hid ⟨by as_aux_lemma => kernel_rfl, by as_aux_lemma => kernel_rfl, by as_aux_lemma => kernel_rfl, rfl⟩) (by decide) inv18 (by as_aux_lemma => kernel_rfl) (by as_aux_lemma => kernel_rfl) (fun _ _ _ h => h) (Or.inl ⟨by rfl, ?_⟩) hh0 (fun inv19 => ?_)
      rotate_left
      · intro w hSw
        try dsimp only at hSw
        go_simp
        try with_reducible rfl
      clear inv18
      try simp only [Act.put, List.getElem_toArray, List.getElem_cons_succ, List.getElem_cons_zero, List.setIfInBounds_toArray, List.set_cons_zero, List.set_cons_succ]
      refine wpAnyZ_take (i := 19) (v := ?_) rfl (Lib.hid ⟨by as_aux_lemma => kernel_rfl, by as_aux_lemma => kernel_rfl, by as_aux_lemma => kernel_rfl, rfl⟩) (by decide) inv19 (by as_aux_lemma => kernel_rfl) (by as_aux_lemma => kernel_rfl) (fun _ _ _ h => h) (Or.inl ⟨by rfl, ?_⟩) hh0 (fun inv20 => ?_)
      rotate_left
      · intro w hSw
        try dsimp only at hSw
        go_simp
        try with_reducible rfl
      clear inv19
      try simp only [Act.put, List.getElem_toArray, List.getElem_cons_succ, List.getElem_cons_zero, List.setIfInBounds_toArray, List.set_cons_zero, List.set_cons_succ]
      refine wpAnyZ_take (i := 20) (v := ?_) rfl (Lib.hid ⟨by as_aux_lemma => kernel_rfl, by as_aux_lemma => kernel_rfl, by as_aux_lemma => kernel_rfl, rfl⟩) (by decide) inv20 (by as_aux_lemma => kernel_rfl) (by as_aux_lemma => kernel_rfl) (fun _ _ _ h => h) (Or.inl ⟨by rfl, ?_⟩) hh0 (fun inv21 => ?_)
      rotate_left
      · intro w hSw
        try dsimp only at hSw
        go_simp
        try with_reducible rfl
      clear inv20
      try simp only [Act.put, List.getElem_toArray, List.getElem_cons_succ, List.getElem_cons_zero, List.setIfInBounds_toArray, List.set_cons_zero, List.set_cons_succ]
      refine wpAnyZ_take (i := 21) (v := ?_) rfl (Lib.hid ⟨by as_aux_lemma => kernel_rfl, by as_aux_lemma => kernel_rfl, by as_aux_lemma => kernel_rfl, rfl⟩) (by decide) inv21 (by as_aux_lemma => kernel_rfl) (by as_aux_lemma => kernel_rfl) (fun _ _ _ h => h) (Or.inl ⟨by rfl, ?_⟩) hh0 (fun inv22 => ?_)
      rotate_left
      · intro w hSw
        try dsimp only at hSw
        go_simp
        try with_reducible rfl
      clear inv21
      try simp only [Act.put, List.getElem_toArray, List.getElem_cons_succ, List.getElem_cons_zero, List.setIfInBounds_toArray, List.set_cons_zero, List.set_cons_succ]
      refine wpAnyZ_all (rs := [22]) (by as_aux_lemma => kernel_rfl) (by simp) ?_
      intro i hi
      obtain rfl : i = 22 := by simpa using hi
      refine step_Z rfl (fun K hK => ?_)
      go_simp
      refine hK.out _ _ (fun h => absurd rfl h) ?_
      clear hK K
      try simp only [Act.put, List.getElem_toArray, List.getElem_cons_succ, List.getElem_cons_zero, List.setIfInBounds_toArray, List.set_cons_zero, List.set_cons_succ]
      refine wpAnyZ_done (by as_aux_lemma => kernel_rfl) ?_ _
      refine NoPanic.normal ?_
      obtain ⟨w3, hw3⟩ : ∃ V, (wr.setCell ⟨g, ia, none⟩ (.int .i64 (va + x))).drew = V := ⟨_, rfl⟩
      have HO3 : Hid (w3.ownsRow g 3 1 (.slice (some ⟨g, 0, none⟩) n n) n (((G.set ia (va + x)).take n).map (Value.int .i64))) := by show World.ownsRow _ _ _ _ _ _ _; rw [← hw3]; exact (row_set HOR.out (va + x)).drew
      have HB3 : Hid (Below g W w3) := by show Below _ _ _; rw [← hw3]; exact (HBB.out.setCell (p := ⟨g, ia, none⟩) (Nat.le_refl _) _).drew
      have b0 : w3.cell? ⟨g, ib, none⟩ = some (.int .i64 vb) := by rw [← hw3]; exact B1.out
      have bf := HO3.out.frozenAt ib
      rw [hw3]
      clear hw3 HOR HBB c2 d0 e0 a0 af B1
      have c2 := cellOf ((HB3.out.block _ (by rw [← HG0.out]; exact lt_of_block HR.out)).trans HR.out) 2 _ rfl
      have d1 := (HB3.out.cell (p := ⟨eb, eo + k * 3 + 1, none⟩) d1l).trans D1.out
      have e0 := (HB3.out.cell (p := ⟨lb, lo + k, none⟩) e0l).trans E0.out
      go_wp2_with fail
      refine wp_region_noPanic ?_
      refine wp_region_last (S := (fun W' : World => W'.cell? ⟨w.heap.size, 2, none⟩ = some (.slice (some ⟨eb, eo, none⟩) m ec) ∧ W'.cell? ⟨eb, eo + k * 3 + 1, none⟩ = some (.int .i64 (ib : Int)) ∧ W'.cell? ⟨lb, lo + k, none⟩ = some (.int .i64 x) ∧ W'.cell? ⟨g, ib, none⟩ = some (.int .i64 vb) ∧ W'.frozen? ⟨g, ib, none⟩ = false)) 22 (by kernel_rfl) (by decide) (fun inv0 => ?_)
      have hh0 := (⟨c2, d1, e0, b0, bf⟩ : _ ∧ _ ∧ _ ∧ _ ∧ _)
      refine wpAnyZ_take (i := 0) (v := ?_) rfl (Lib.hid ⟨by as_aux_lemma => kernel_rfl, by as_aux_lemma => kernel_rfl, by as_aux_lemma => kernel_rfl, rfl⟩) (by decide) inv0 (by as_aux_lemma => kernel_rfl) (by as_aux_lemma => kernel_rfl) (fun _ _ _ h => h) (Or.inl ⟨by rfl, ?_⟩) hh0 (fun inv1 => ?_)
      rotate_left
      · intro w hSw
        try dsimp only at hSw
        go_simp
        try with_reducible rfl
      clear inv0
      try simp only [Act.put, List.getElem_toArray, List.getElem_cons_succ, List.getElem_cons_zero, List.setIfInBounds_toArray, List.set_cons_zero, List.set_cons_succ]
      refine wpAnyZ_take (i := 1) (v := ?_) rfl (Lib.hid ⟨by as_aux_lemma => kernel_rfl, by as_aux_lemma => kernel_rfl, by as_aux_lemma => kernel_rfl, rfl⟩) (by decide) inv1 (by as_aux_lemma => kernel_rfl) (by as_aux_lemma => kernel_rfl) (fun _ _ _ h => h) (Or.inl ⟨by rfl, ?_⟩) hh0 (fun inv2 => ?_)
      rotate_left
      · intro w hSw
        try dsimp only at hSw
        go_simp
        try with_reducible rfl
      clear inv1
      try simp only [Act.put, List.getElem_toArray, List.getElem_cons_succ, List.getElem_cons_zero, List.setIfInBounds_toArray, List.set_cons_zero, List.set_cons_succ]
      refine wpAnyZ_take (i := 2) (v := ?_) rfl (Lib.hid ⟨by as_aux_lemma => kernel_rfl, by as_aux_lemma => kernel_rfl, by as_aux_lemma => kernel_rfl, rfl⟩) (by decide) inv2 (by as_aux_lemma => kernel_rfl) (by as_aux_lemma => kernel_rfl) (fun _ _ _ h => h) (Or.inl ⟨by rfl, ?_⟩) hh0 (fun inv3 => ?_)
      rotate_left
      · intro w hSw
        try dsimp only at hSw
        go_simp
        try with_reducible rfl
      clear inv2
      try simp only [Act.put, List.getElem_toArray, List.getElem_cons_succ, List.getElem_cons_zero, List.setIfInBounds_toArray, List.set_cons_zero, List.set_cons_succ]
      refine wpAnyZ_take (i := 3) (v := ?_) rfl (Lib.hid ⟨by as_aux_lemma => kernel_rfl, by as_aux_lemma => kernel_rfl, by as_aux_lemma => kernel_rfl, rfl⟩) (by decide) inv3 (by as_aux_lemma => kernel_rfl) (by as_aux_lemma => kernel_rfl) (fun _ _ _ h => h) (Or.inl ⟨by rfl, ?_⟩) hh0 (fun inv4 => ?_)
      rotate_left
      · intro w hSw
        try dsimp only at hSw
        go_simp
        try with_reducible rfl
      clear inv3
      try simp only [Act.put, List.getElem_toArray, List.getElem_cons_succ, List.getElem_cons_zero, List.setIfInBounds_toArray, List.set_cons_zero, List.set_cons_succ]
      refine wpAnyZ_take (i := 4) (v := ?_) rfl (Lib.hid ⟨by as_aux_lemma => kernel_rfl, by as_aux_lemma => kernel_rfl, by as_aux_lemma => kernel_rfl, rfl⟩) (by decide) inv4 (by as_aux_lemma => kernel_rfl) (by as_aux_lemma => kernel_rfl) (fun _ _ _ h => h) (Or.inl ⟨by rfl, ?_⟩) hh0 (fun inv5 => ?_)
      rotate_left
      · intro w hSw
        try dsimp only at hSw
        go_simp
        try with_reducible rfl
      clear inv4
      try simp only [Act.put, List.getElem_toArray, List.getElem_cons_succ, List.getElem_cons_zero, List.setIfInBounds_toArray, List.set_cons_zero, List.set_cons_succ]
      refine wpAnyZ_take (i := 5) (v := ?_) rfl (Lib.hid ⟨by as_aux_lemma => kernel_rfl, by as_aux_lemma => kernel_rfl, by as_aux_lemma => kernel_rfl, rfl⟩) (by decide) inv5 (by as_aux_lemma => kernel_rfl) (by as_aux_lemma => kernel_rfl) (fun _ _ _ h => h) (Or.inl ⟨by rfl, ?_⟩) hh0 (fun inv6 => ?_)
      rotate_left
      · intro w hSw
        try dsimp only at hSw
        go_simp
        try with_reducible rfl
      clear inv5
      try simp only [Act.put, List.getElem_toArray, List.getElem_cons_succ, List.getElem_cons_zero, List.setIfInBounds_toArray, List.set_cons_zero, List.set_cons_succ]
      refine wpAnyZ_take (i := 6) (v := ?_) rfl (Lib.hid ⟨by as_aux_lemma => kernel_rfl, by as_aux_lemma => kernel_rfl, by as_aux_lemma => kernel_rfl, rfl⟩) (by decide) inv6 (by as_aux_lemma => kernel_rfl) (by as_aux_lemma => kernel_rfl) (fun _ _ _ h => h) (Or.inl ⟨by rfl, ?_⟩) hh0 (fun inv7 => ?_)
      rotate_left
      · intro w hSw
        try dsimp only at hSw
        go_simp
        try with_reducible rfl
      clear inv6
      try simp only [Act.put, List.getElem_toArray, List.getElem_cons_succ, List.getElem_cons_zero, List.setIfInBounds_toArray, List.set_cons_zero, List.set_cons_succ]
      refine wpAnyZ_take (i := 7) (v := ?_) rfl (Lib.hid ⟨by as_aux_lemma => kernel_rfl, by as_aux_lemma => kernel_rfl, by as_aux_lemma => kernel_rfl, rfl⟩) (by decide) inv7 (by as_aux_lemma => kernel_rfl) (by as_aux_lemma => kernel_rfl) (fun _ _ _ h => h) (Or.inl ⟨by rfl, ?_⟩) hh0 (fun inv8 => ?_)
      rotate_left
      · intro w hSw
        try dsimp only at hSw
        go_simp
        try with_reducible rfl
      clear inv7
      try simp only [Act.put, List.getElem_toArray, List.getElem_cons_succ, List.getElem_cons_zero, List.setIfInBounds_toArray, List.set_cons_zero, List.set_cons_succ]
      refine wpAnyZ_take (i := 8) (v := ?_) rfl (Lib.hid ⟨by as_aux_lemma => kernel_rfl, by as_aux_lemma => kernel_rfl, by as_aux_lemma => kernel_rfl, rfl⟩) (by decide) inv8 (by as_aux_lemma => kernel_rfl) (by as_aux_lemma => kernel_rfl) (fun _ _ _ h => h) (Or.inl ⟨by rfl, ?_⟩) hh0 (fun inv9 => ?_)
      rotate_left
      · intro w hSw
        try dsimp only at hSw
        go_simp
        try with_reducible rfl
      clear inv8
      try simp only [Act.put, List.getElem_toArray, List.getElem_cons_succ, List.getElem_cons_zero, List.setIfInBounds_toArray, List.set_cons_zero, List.set_cons_succ]
      refine wpAnyZ_take (i := 9) (v := ?_) rfl (Lib.hid ⟨by as_aux_lemma => kernel_rfl, by as_aux_lemma => kernel_rfl, by as_aux_lemma => kernel_rfl, rfl⟩) (by decide) inv9 (by as_aux_lemma => kernel_rfl) (by as_aux_lemma => kernel_rfl) (fun _ _ _ h => h) (Or.inl ⟨by rfl, ?_⟩) hh0 (fun inv10 => ?_)
      rotate_left
      · intro w hSw
        try dsimp only at hSw
        go_simp
        try with_reducible rfl
      clear inv9
      try simp only [Act.put, List.getElem_toArray, List.getElem_cons_succ, List.getElem_cons_zero, List.setIfInBounds_toArray, List.set_cons_zero, List.set_cons_succ]
      refine wpAnyZ_take (i := 10) (v := ?_) rfl (Lib.hid ⟨by as_aux_lemma => kernel_rfl, by as_aux_lemma => kernel_rfl, by as_aux_lemma => kernel_rfl, rfl⟩) (by decide) inv10 (by as_aux_lemma => kernel_rfl) (by as_aux_lemma => kernel_rfl) (fun _ _ _ h => h) (Or.inl ⟨by rfl, ?_⟩) hh0 (fun inv11 => ?_)
      rotate_left
      · intro w hSw
        try dsimp only at hSw
        go_simp
        try with_reducible rfl
      clear inv10
      try simp only [Act.put, List.getElem_toArray, List.getElem_cons_succ, List.getElem_cons_zero, List.setIfInBounds_toArray, List.set_cons_zero, List.set_cons_succ]
      refine wpAnyZ_take (i := 11) (v := ?_) rfl (Lib.hid ⟨by as_aux_lemma => kernel_rfl, by as_aux_lemma => kernel_rfl, by as_aux_lemma => kernel_rfl, rfl⟩) (by decide) inv11 (by as_aux_lemma => kernel_rfl) (by as_aux_lemma => kernel_rfl) (fun _ _ _ h => h) (Or.inl ⟨by rfl, ?_⟩) hh0 (fun inv12 => ?_)
      rotate_left
      · intro w hSw
        try dsimp only at hSw
        go_simp
        try with_reducible rfl
      clear inv11
      try simp only [Act.put, List.getElem_toArray, List.getElem_cons_succ, List.getElem_cons_zero, List.setIfInBounds_toArray, List.set_cons_zero, List.set_cons_succ]
      refine wpAnyZ_take (i := 12) (v := ?_) rfl (Lib.hid ⟨by as_aux_lemma => kernel_rfl, by as_aux_lemma => kernel_rfl, by as_aux_lemma => kernel_rfl, rfl⟩) (by decide) inv12 (by as_aux_lemma => kernel_rfl) (by as_aux_lemma => kernel_rfl) (fun _ _ _ h => h) (Or.inl ⟨by rfl, ?_⟩) hh0 (fun inv13 => ?_)
      rotate_left
      · intro w hSw
        try dsimp only at hSw
        go_simp
        try with_reducible rfl
      clear inv12
      try simp only [Act.put, List.getElem_toArray, List.getElem_cons_succ, List.getElem_cons_zero, List.setIfInBounds_toArray, List.set_cons_zero, List.set_cons_succ]
      refine wpAnyZ_take (i := 13) (v := ?_) rfl (Lib.hid ⟨by as_aux_lemma => kernel_rfl, by as_aux_lemma => kernel_rfl, by as_aux_lemma => kernel_rfl, rfl⟩) (by decide) inv13 (by as_aux_lemma => kernel_rfl) (by as_aux_lemma => kernel_rfl) (fun _ _ _ h => h) (Or.inl ⟨by rfl, ?_⟩) hh0 (fun inv14 => ?_)
      rotate_left
      · intro w hSw
        try dsimp only at hSw
        go_simp
        try with_reducible rfl
      clear inv13
      try simp only [Act.put, List.getElem_toArray, List.getElem_cons_succ, List.getElem_cons_zero, List.setIfInBounds_toArray, List.set_cons_zero, List.set_cons_succ]
      refine wpAnyZ_take (i := 14) (v := ?_) rfl (Lib.hid ⟨by as_aux_lemma => kernel_rfl, by as_aux_lemma => kernel_rfl, by as_aux_lemma => kernel_rfl, rfl⟩) (by decide) inv14 (by as_aux_lemma => kernel_rfl) (by as_aux_lemma => kernel_rfl) (fun _ _ _ h => h) (Or.inl ⟨by rfl, ?_⟩) hh0 (fun inv15 => ?_)
      rotate_left
      · intro w hSw
        try dsimp only at hSw
        go_simp
        try with_reducible rfl
      clear inv14
      try simp only [Act.put, List.getElem_toArray, List.getElem_cons_succ, List.getElem_cons_zero, List.setIfInBounds_toArray, List.set_cons_zero, List.set_cons_succ]
      refine wpAnyZ_take (i := 15) (v := ?_) rfl (Lib.hid ⟨by as_aux_lemma => kernel_rfl, by as_aux_lemma => kernel_rfl, by as_aux_lemma => kernel_rfl, rfl⟩) (by decide) inv15 (by as_aux_lemma => kernel_rfl) (by as_aux_lemma => kernel_rfl) (fun _ _ _ h => h) (Or.inl ⟨by rfl, ?_⟩) hh0 (fun inv16 => ?_)
      rotate_left
      · intro w hSw
        try dsimp only at hSw
        go_simp
        try with_reducible rfl
      clear inv15
      try simp only [Act.put, List.getElem_toArray, List.getElem_cons_succ, List.getElem_cons_zero, List.setIfInBounds_toArray, List.set_cons_zero, List.set_cons_succ]
      refine wpAnyZ_take (i := 16) (v := ?_) rfl (Lib.hid ⟨by as_aux_lemma => kernel_rfl, by as_aux_lemma => kernel_rfl, by as_aux_lemma => kernel_rfl, rfl⟩) (by decide) inv16 (by as_aux_lemma => kernel_rfl) (by as_aux_lemma => kernel_rfl) (fun _ _ _ h => h) (Or.inl ⟨by rfl, ?_⟩) hh0 (fun inv17 => ?_)
      rotate_left
      · intro w hSw
        try dsimp only at hSw
        go_simp
        try with_reducible rfl
      clear inv16
      try simp only [Act.put, List.getElem_toArray, List.getElem_cons_succ, List.getElem_cons_zero, List.setIfInBounds_toArray, List.set_cons_zero, List.set_cons_succ]
      refine wpAnyZ_take (i := 17) (v := ?_) rfl (Lib.hid ⟨by as_aux_lemma => kernel_rfl, by as_aux_lemma => kernel_rfl, by as_aux_lemma => kernel_rfl, rfl⟩) (by decide) inv17 (by as_aux_lemma => kernel_rfl) (by as_aux_lemma => kernel_rfl) (fun _ _ _ h => h) (Or.inl ⟨by rfl, ?_⟩) hh0 (fun inv18 => ?_)
      rotate_left
      · intro w hSw
        try dsimp only at hSw
        go_simp
        try with_reducible rfl
      clear inv17
      try simp only [Act.put, List.getElem_toArray, List.getElem_cons_succ, List.getElem_cons_zero, List.setIfInBounds_toArray, List.set_cons_zero, List.set_cons_succ]
      refine wpAnyZ_take (i := 18) (v := ?_) rfl (Lib.hid ⟨by as_aux_lemma => kernel_rfl, by as_aux_lemma => kernel_rfl, by as_aux_lemma => kernel_rfl, rfl⟩) (by decide) inv18 (by as_aux_lemma => kernel_rfl) (by as_aux_lemma => kernel_rfl) (fun _ _ _ h => h) (Or.inl ⟨by rfl, ?_⟩) hh0 (fun inv19 => ?_)
      rotate_left
      · intro w hSw
        try dsimp only at hSw
        go_simp
        try with_reducible rfl
      clear inv18
      try simp only [Act.put, List.getElem_toArray, List.getElem_cons_succ, List.getElem_cons_zero, List.setIfInBounds_toArray, List.set_cons_zero, List.set_cons_succ]
      refine wpAnyZ_take (i := 19) (v := ?_) rfl (Lib.hid ⟨by as_aux_lemma => kernel_rfl, by as_aux_lemma => kernel_rfl, by as_aux_lemma => kernel_rfl, rfl⟩) (by decide) inv19 (by as_aux_lemma => kernel_rfl) (by as_aux_lemma => kernel_rfl) (fun _ _ _ h => h) (Or.inl ⟨by rfl, ?_⟩) hh0 (fun inv20 => ?_)
      rotate_left
      · intro w hSw
        try dsimp only at hSw
        go_simp
        try with_reducible rfl
      clear inv19
      try simp only [Act.put, List.getElem_toArray, List.getElem_cons_succ, List.getElem_cons_zero, List.setIfInBounds_toArray, List.set_cons_zero, List.set_cons_succ]
      refine wpAnyZ_take (i := 20) (v := ?_) rfl (Lib.hid ⟨by as_aux_lemma => kernel_rfl, by as_aux_lemma => kernel_rfl, by as_aux_lemma => kernel_rfl, rfl⟩) (by decide) inv20 (by as_aux_lemma => kernel_rfl) (by as_aux_lemma => kernel_rfl) (fun _ _ _ h => h) (Or.inl ⟨by rfl, ?_⟩) hh0 (fun inv21 => ?_)
      rotate_left
      · intro w hSw
        try dsimp only at hSw
        go_simp
        try with_reducible rfl
      clear inv20
      try simp only [Act.put, List.getElem_toArray, List.getElem_cons_succ, List.getElem_cons_zero, List.setIfInBounds_toArray, List.set_cons_zero, List.set_cons_succ]
      refine wpAnyZ_take (i := 21) (v := ?_) rfl (Lib.hid ⟨by as_aux_lemma => kernel_rfl, by as_aux_lemma => kernel_rfl, by as_aux_lemma => kernel_rfl, rfl⟩) (by decide) inv21 (by as_aux_lemma => kernel_rfl) (by as_aux_lemma => kernel_rfl) (fun _ _ _ h => h) (Or.inl ⟨by rfl, ?_⟩) hh0 (fun inv22 => ?_)
      rotate_left
      · intro w hSw
        try dsimp only at hSw
        go_simp
        try with_reducible rfl
      clear inv21
      try simp only [Act.put, List.getElem_toArray, List.getElem_cons_succ, List.getElem_cons_zero, List.setIfInBounds_toArray, List.set_cons_zero, List.set_cons_succ]
      refine wpAnyZ_all (rs := [22]) (by as_aux_lemma => kernel_rfl) (by simp) ?_
      intro i hi
      obtain rfl : i = 22 := by simpa using hi
      refine step_Z rfl (fun K hK => ?_)
      go_simp
      refine hK.out _ _ (fun h => absurd rfl h) ?_
      clear hK K
      try simp only [Act.put, List.getElem_toArray, List.getElem_cons_succ, List.getElem_cons_zero, List.setIfInBounds_toArray, List.set_cons_zero, List.set_cons_succ]
      refine wpAnyZ_done (by as_aux_lemma => kernel_rfl) ?_ _
      refine NoPanic.normal ?_
      have HO4 : Hid (((w3.setCell ⟨g, ib, none⟩ (.int .i64 (vb - x))).drew).ownsRow g 3 1 (.slice (some ⟨g, 0, none⟩) n n) n (((givTo c.eds l (k + 1)).take n).map (Value.int .i64))) := by
        show World.ownsRow _ _ _ _ _ _ _
        rw [HSS.out]
        exact (row_set HO3.out (vb - x)).drew
      have HB4 : Hid (Below g W (w3.setCell ⟨g, ib, none⟩ (.int .i64 (vb - x))).drew) := (HB3.out.setCell (p := ⟨g, ib, none⟩) (Nat.le_refl _) _).drew
      clear HO3 HB3 c2 d1 e0 b0 bf D0 D1 E0 HSS
      obtain ⟨w4, hw4⟩ : ∃ V, (w3.setCell ⟨g, ib, none⟩ (.int .i64 (vb - x))).drew = V := ⟨_, rfl⟩
      rw [hw4] at HO4 HB4 ⊢
      clear hw4
      go_wp2
      go_roundg (gk - 1)
      case measure => omega
      case rel => exact ⟨k + 1, by omega, by go_num, HO4, HB4⟩
    · have kI : ¬ (k : Int) < (m : Int) := by omega
      obtain rfl : k = m := by omega
      clear hlt hk
      go_wp2
      go_ret
      refine ⟨_, rfl, ?_, HB.out.trans (by have h := HBB.out; rw [← HG0.out] at h; exact h.mono HB.out.size)⟩
      have hlen : ((givTo c.eds l k).take n).length = n := by rw [List.length_take, givTo_length]; omega
      have h := HOR.out
      unfold givN
      rw [HN.out]
      exact intsAt_own (base := g) (by rw [hlen]; exact h) (by rw [hlen]; omega)
end Go.Proofs.Ythhlakodnpopmaa
namespace Go.Proofs.Ythhlakodnpopmaa
open Go Go.RowKit Go.Shelf Ed

theorem boundE_err {c : Cas} {l : List Int} (h : errC c ≠ 0) : boundE c l = (0, errC c) := by unfold boundE; rw [if_pos h]
theorem boundE_len {c : Cas} {l : List Int} (h : errC c = 0) (h2 : l.length ≠ c.eds.length) : boundE c l = (0, 3) := by unfold boundE; rw [if_neg (by simp [h]), if_pos h2]
theorem boundE_out {c : Cas} {l : List Int} (h : errC c = 0) (h2 : l.length = c.eds.length) (k : Nat) (hk : k < l.length) (hx : inB (-100000) 100000 l[k] = false) : boundE c l = (0, 7) := by
  unfold boundE
  rw [if_neg (by simp [h]), if_neg (by simp [h2]), if_pos]
  unfold inB at hx
  exact allIn_not _ _ l k hk (by simp only [Bool.and_eq_false_iff, decide_eq_false_iff_not] at hx; omega)
theorem boundE_in {c : Cas} {l : List Int} (h : errC c = 0) (h2 : l.length = c.eds.length) (hx : ∀ k (hk : k < l.length), inB (-100000) 100000 l[k] = true) : allIn (-100000) 100000 l = true ∧ PuBd l := by
  constructor
  · unfold allIn
    rw [List.all_eq_true]
    intro x hx'
    obtain ⟨k, hk, rfl⟩ := List.mem_iff_getElem.1 hx'
    exact hx k hk
  · intro i
    rcases Nat.lt_or_ge i l.length with hi | hi
    · rw [show l.getD i 0 = l[i] by simp [List.getD_eq_getElem?_getD, hi]]
      have := hx i hi
      unfold inB at this
      simp only [Bool.and_eq_true, decide_eq_true_eq] at this
      exact this
    · rw [show l.getD i 0 = 0 by simp [List.getD_eq_getElem?_getD, hi]]; omega
theorem boundE_torn {c : Cas} {l : List Int} (h : errC c = 0) (h2 : l.length = c.eds.length) (h3 : allIn (-100000) 100000 l = true) (h4 : tornK (wsC c) c.eds.length = true) : boundE c l = (0, 9) := by
  unfold boundE; rw [if_neg (by simp [h]), if_neg (by simp [h2]), if_neg (by simp [h3]), if_pos h4]
theorem boundE_ok {c : Cas} {l : List Int} (h : errC c = 0) (h2 : l.length = c.eds.length) (h3 : allIn (-100000) 100000 l = true) (h4 : tornK (wsC c) c.eds.length = false) : boundE c l = (bndC c (wsC c) (pad8 l), 0) := by
  unfold boundE; rw [if_neg (by simp [h]), if_neg (by simp [h2]), if_neg (by simp [h3]), if_neg (by simp [h4])]
theorem givTo_pad (eds : List Edg) (l : List Int) (h : l.length ≤ 8) : ∀ k, givTo eds (pad8 l) k = givTo eds l k := by
  intro k
  induction k with
  | zero => rfl
  | succ k ih => simp only [givTo, ih, pad8_get l h]
theorem bndE_one (c : Cas) (l : List Int) (k : Nat) (hk : k < c.eds.length) (h8 : c.eds.length ≤ 8) (hl : l.length ≤ 8) : bndE (wsC c) (pad8 l) (k + 1) = bndE (wsC c) (pad8 l) k + if 0 < l.getD k 0 then l.getD k 0 * (wantF c k).1 else l.getD k 0 * (wantF c k).2 := by
  simp only [bndE]
  rw [pad8_get l hl, wL_ws c k hk h8]
  generalize l.getD k 0 = y
  split
  · rw [show max y 0 = y by omega, show min y 0 = 0 by omega, Int.zero_mul, Int.add_zero]
  · rw [show max y 0 = 0 by omega, show min y 0 = y by omega, Int.zero_mul, Int.zero_add]
theorem ints_keep {w w' : World} {v : Value} {l : List Int} (h : IntsAt w v l) (hb : Below w.heap.size w w') : IntsAt w' v l := h.below hb
set_option maxRecDepth 100000 in
set_option maxHeartbeats 8000000 in
theorem rbound_any (c : Cas) (sv ev lv : Value) (l : List Int) (w : World) (hC : CasAt w c sv ev) (hL : IntsAt w lv l) :
    Calls Try.prog 31 #[.agg #[.int .i64 c.tol, sv, ev], lv] w fun e w' => e = .returned (.tuple #[.int .i64 (boundE c l).1, .int .i64 (boundE c l).2]) ∧ Below w.heap.size w w' := by
  obtain ⟨n, hn⟩ : ∃ n, c.shs.length = n := ⟨_, rfl⟩
  obtain ⟨m, hm⟩ : ∃ m, c.eds.length = m := ⟨_, rfl⟩
  obtain ⟨p, hp⟩ : ∃ p, l.length = p := ⟨_, rfl⟩
  obtain ⟨tol, htol⟩ : ∃ t, c.tol = t := ⟨_, rfl⟩
  obtain ⟨hS, hE⟩ := id hC
  obtain ⟨lm, sa, sc, rfl, _⟩ := id hS
  obtain ⟨le, ea, ec, rfl, _⟩ := id hE
  obtain ⟨ll, la, lc, rfl, _⟩ := id hL
  rw [hp] at hL ll ⊢
  rw [hn] at hC hS lm ⊢
  rw [hm] at hC hE le ⊢
  rw [htol]
  obtain ⟨W, hW⟩ : ∃ W, w.alloc (Obj.cells #[.int .i64 tol, .slice sa n sc, .slice ea m ec] 25) = W := ⟨_, rfl⟩
  have hb : Below w.heap.size w W := by rw [← hW]; exact (Below.refl _ _).alloc (Nat.le_refl _) _
  have HCK := Lib.hid (rcheck_any c _ _ W (hC.below hb))
  rw [htol] at HCK
  have HR : Hid (W.heap[w.heap.size]? = some (Obj.cells #[.int .i64 tol, .slice sa n sc, .slice ea m ec] 25)) := by show _ = _; rw [← hW]; exact heap_alloc_new w _
  have HCC := Lib.hid (hC.below hb)
  have HLL := Lib.hid (hL.below hb)
  have HW := Lib.hid hW
  have HB := Lib.hid hb
  have HN := Lib.hid hn
  have HM := Lib.hid hm
  have HP := Lib.hid hp
  have HTOL := Lib.hid htol
  have nI : (n : Int) ≤ 4611686018427387904 := by omega
  have mI : (m : Int) ≤ 4611686018427387904 := by omega
  have pI : (p : Int) ≤ 4611686018427387904 := by omega
  obtain ⟨⟨r1, r2⟩, hres⟩ : ∃ r, boundE c l = r := ⟨_, rfl⟩
  have HRS := Lib.hid hres
  rw [hres]
  simp only
  clear hW hb hS hE hL hn hm hC hp htol hres
  go_enter Try.func31, Try.ntmps31
  go_wp2_with fail
  rw [HW.out]
  have c0 := cellOf HR.out 0 _ rfl
  have c1 := cellOf HR.out 1 _ rfl
  have c2 := cellOf HR.out 2 _ rfl
  have cl := lt_of_block HR.out
  go_wp2_with fail
  refine HCK.out.mono ?_
  rintro e w1 ⟨rfl, hb1⟩
  have R1 := Lib.hid ((hb1.block _ (lt_of_block HR.out)).trans HR.out)
  have HB1 := Lib.hid (HB.out.trans (hb1.mono HB.out.size))
  have HC1 := Lib.hid (HCC.out.below hb1)
  have HL1 := Lib.hid (HLL.out.below hb1)
  clear hb1 HB HCC HLL HCK HW HR c0 c1 c2 cl
  obtain ⟨⟨k1, k2, er⟩, hk⟩ : ∃ x, checkC c = x := ⟨_, rfl⟩
  have HER : Hid (errC c = er) := by show _ = _; unfold errC; rw [hk]
  rw [hk]
  clear hk
  have c2 := cellOf R1.out 2 _ rfl
  have cl := lt_of_block R1.out
  by_cases h0 : er = 0
  · subst h0
    by_cases hnm : p = m
    · have tnm : ((p : Int) != (m : Int)) = false := by simp [hnm]
      have HNM := Lib.hid hnm
      have HV := Lib.hid (valid_of HER.out)
      clear hnm
      go_wp2_with fail
      go_loopg [8, 9] p (fun gh e i wr => ∃ (k : Nat) (er : Int), gh + k = p ∧ i = .int .i64 (k : Int) ∧ e = .int .i64 er ∧ Hid ((er = 0 ∧ ∀ j (hj : j < l.length), j < k → inB (-100000) 100000 l[j] = true) ∨ (er ≠ 0 ∧ r1 = 0 ∧ er = r2)) ∧ Hid (Below w1.heap.size w1 wr))
      case atStart => exact ⟨0, 0, by omega, rfl, rfl, Or.inl ⟨rfl, fun j _ hj => absurd hj (Nat.not_lt_zero _)⟩, Below.refl _ _⟩
      case round =>
        clear c2 cl tnm
        obtain ⟨k, er, hk, rfl, rfl, HZ, HBB⟩ := hrel
        by_cases h0 : er = 0
        · subst h0
          by_cases hlt : k < p
          · have kI : (k : Int) < (p : Int) := by omega
            have hkn : k < l.length := by rw [HP.out]; exact hlt
            obtain ⟨lb, lo, rfl, e0⟩ := (HL1.out.below HBB.out).get hkn
            have hr7 := fun h => boundE_out (c := c) (l := l) HER.out (by rw [HP.out, HM.out]; exact HNM.out) k hkn h
            rw [HRS.out] at hr7
            have HR7 := Lib.hid hr7
            have HJ : Hid (inB (-100000) 100000 l[k] = true → ∀ j (hj : j < l.length), j < k + 1 → inB (-100000) 100000 l[j] = true) := fun hx j hj hjk => by
              by_cases e : j = k
              · subst e; exact hx
              · rcases HZ.out with h | h
                · exact h.2 j hj (by omega)
                · exact absurd rfl h.1
            generalize l[k] = x at *
            clear hr7 hkn HZ
            go_wp2_with fail
            refine (rin_any x (-100000) 100000 wr).mono ?_
            rintro e w' ⟨rfl, rfl⟩
            cases hbb : inB (-100000) 100000 x
            · have hr := HR7.out hbb
              simp only [Prod.mk.injEq] at hr
              have HQ := Lib.hid hr
              clear hbb e0 hr HR7 HJ
              go_wp2
              go_roundg (gk - 1)
              case measure => omega
              case rel => exact ⟨k + 1, 7, by omega, by go_num, rfl, Or.inr ⟨by decide, HQ.out.1, HQ.out.2.symm⟩, HBB⟩
            · have HZ2 := Lib.hid (HJ.out hbb)
              clear hbb e0 HR7 HJ
              go_wp2
              go_roundg (gk - 1)
              case measure => omega
              case rel => exact ⟨k + 1, 0, by omega, by go_num, rfl, Or.inl ⟨rfl, HZ2.out⟩, HBB⟩
          · have kI : ¬ (k : Int) < (p : Int) := by omega
            obtain rfl : k = p := by omega
            have HIN := Lib.hid (boundE_in (c := c) (l := l) HER.out (by rw [HP.out, HM.out]; exact HNM.out) (fun j hj => by
              rcases HZ.out with h | h
              · exact h.2 j hj (by rw [← HP.out]; exact hj)
              · exact absurd rfl h.1))
            have HC2 := Lib.hid (HC1.out.below HBB.out)
            have HL2 := Lib.hid (HL1.out.below HBB.out)
            have R2 := Lib.hid ((HBB.out.block _ (lt_of_block R1.out)).trans R1.out)
            have HB2 := Lib.hid (HB1.out.trans (HBB.out.mono HB1.out.size))
            have HSD := rsound_any c HV.out _ _ wr HC2.out
            rw [HTOL.out] at HSD
            have HS := Lib.hid HSD
            have c0 := cellOf R2.out 0 _ rfl
            have c1 := cellOf R2.out 1 _ rfl
            have c2 := cellOf R2.out 2 _ rfl
            have cl := lt_of_block R2.out
            clear hlt hk HZ HSD HBB HC1 HL1 R1 HB1
            go_wp2_with fail
            refine HS.out.mono ?_
            rintro e w3 ⟨rfl, hb3⟩
            have HC3 := Lib.hid (HC2.out.below hb3)
            have HL3 := Lib.hid (HL2.out.below hb3)
            have R3 := Lib.hid ((hb3.block _ (lt_of_block R2.out)).trans R2.out)
            have HB3 := Lib.hid (HB2.out.trans (hb3.mono HB2.out.size))
            clear HC2 HL2 R2 HB2 HS hb3 c0 c1 c2 cl
            cases ht : tornK (wsC c) c.eds.length
            · have hr := boundE_ok HER.out (by rw [HP.out, HM.out]; exact HNM.out) HIN.out.1 ht
              rw [HRS.out] at hr
              simp only [Prod.mk.injEq] at hr
              obtain ⟨hr1, rfl⟩ := hr
              have HR1 := Lib.hid hr1
              have k8 : k ≤ 8 := by have := HV.out.m8; have := HM.out; have := HNM.out; omega
              have n5 : n ≤ 5 := by have := HV.out.n5; have := HN.out; omega
              have k8I : (k : Int) ≤ 8 := by omega
              have n5I : (n : Int) ≤ 5 := by omega
              have HWB := Lib.hid (wsC_bd c HV.out)
              have HBE := Lib.hid (bndE_bd (wsC c) (pad8 l) (wsC_bd c HV.out) (fun i => by rw [pad8_get l (by rw [HP.out]; exact k8)]; exact HIN.out.2 i))
              clear ht hr1 HRS
              go_wp2_with fail
              go_loopg [10, 11, 12, 13] k (fun gh bv i v12 v13 wr => ∃ j : Nat, gh + j = k ∧ i = .int .i64 (j : Int) ∧ bv = .int .i64 (bndE (wsC c) (pad8 l) j) ∧ Hid (Below w3.heap.size w3 wr))
              case atStart => exact ⟨0, by omega, rfl, rfl, Below.refl _ _⟩
              case round =>
                obtain ⟨j, hk, rfl, rfl, HBB⟩ := hrel
                have R4 := Lib.hid ((HBB.out.block _ (lt_of_block R3.out)).trans R3.out)
                have HL4 := Lib.hid (HL3.out.below HBB.out)
                have HC4 := Lib.hid (HC3.out.below HBB.out)
                have c0 := cellOf R4.out 0 _ rfl
                have c1 := cellOf R4.out 1 _ rfl
                have c2 := cellOf R4.out 2 _ rfl
                have cl := lt_of_block R4.out
                by_cases hlt : j < k
                · have jI : (j : Int) < (k : Int) := by omega
                  have jM : (j : Int) < (m : Int) := by have := HNM.out; omega
                  have hjm : j < c.eds.length := by rw [HM.out, ← HNM.out]; exact hlt
                  have hjl : j < l.length := by rw [HP.out]; exact hlt
                  obtain ⟨lb, lo, rfl, e0⟩ := HL4.out.get hjl
                  obtain ⟨eb, eo, pa, pc, rfl, d0, d1, d2, hpp⟩ := HC4.out.eds.get hjm
                  have hed := HV.out.ed _ (List.getElem_mem hjm)
                  have hgd : l.getD j 0 = l[j] := by simp [List.getD_eq_getElem?_getD, hjl]
                  have hxb := HIN.out.2 j
                  have hbe := HBE.out j
                  have hwb := HWB.out j
                  rw [wL_ws c j hjm HV.out.m8] at hwb
                  have hst := bndE_one c l j hjm HV.out.m8 (by rw [HP.out]; exact k8)
                  have hwk : wantF c j = wantS tol c.eds[j].pts := by unfold wantF; rw [getD_lt _ _ hjm, HTOL.out]
                  rw [hgd] at hxb hst
                  rw [hwk] at hwb hst
                  have HST := Lib.hid hst
                  have HF : Hid (∀ W', Below wr.heap.size wr W' → Calls Try.prog 56 #[.agg #[.int .i64 tol, .slice sa n sc, .slice (some ⟨eb, eo, none⟩) m ec], .agg #[.int .i64 c.eds[j].a, .int .i64 c.eds[j].b, .slice pa c.eds[j].pts.length pc]] W' fun e w' => e = .returned (.tuple #[.agg #[.int .i64 (wantS tol c.eds[j].pts).1, .int .i64 (wantS tol c.eds[j].pts).2], .bool (decide ((wantS tol c.eds[j].pts).1 ≤ (wantS tol c.eds[j].pts).2))]) ∧ Below W'.heap.size W' w') := fun W' hb => by
                    have h := rwant_any c.tol (.slice sa n sc) (.slice (some ⟨eb, eo, none⟩) m ec) (.slice pa c.eds[j].pts.length pc) c.eds[j].a c.eds[j].b c.eds[j].pts W' HV.out.t0 HV.out.t50 hed.pt hed.p1 hed.p4 (hpp.below hb)
                    rw [HTOL.out] at h
                    exact h
                  generalize wantS tol c.eds[j].pts = s at *
                  generalize c.eds[j] = d at *
                  obtain ⟨da, db, ps⟩ := d
                  obtain ⟨sl, sh⟩ := s
                  simp only at d0 d1 d2 HF HST hwb
                  generalize l[j] = x at *
                  generalize bndE (wsC c) (pad8 l) j = bj at *
                  obtain ⟨np, hnp⟩ : ∃ np, ps.length = np := ⟨_, rfl⟩
                  rw [hnp] at d2 HF
                  have hm1 := mul_in (a := x) (b := sl) (A := 100000) (B := 20000) (by omega) (by omega) (by omega) (by omega)
                  have hm2 := mul_in (a := x) (b := sh) (A := 100000) (B := 20000) (by omega) (by omega) (by omega) (by omega)
                  have s1 : IntKind.i64.wrap (x * sl) = x * sl := by rw [IntKind.wrap_i64] <;> omega
                  have s2 : IntKind.i64.wrap (x * sh) = x * sh := by rw [IntKind.wrap_i64] <;> omega
                  have s3 : IntKind.i64.wrap (bj + x * sl) = bj + x * sl := by rw [IntKind.wrap_i64] <;> omega
                  have s4 : IntKind.i64.wrap (bj + x * sh) = bj + x * sh := by rw [IntKind.wrap_i64] <;> omega
                  generalize hxl : x * sl = xsl at *
                  generalize hxh : x * sh = xsh at *
                  have E0 := Lib.hid e0
                  clear hed hpp hnp hjm hjl hgd hst hwk hm1 hm2 hwb hbe hxb e0
                  go_wp2_with fail
                  go_cut [12, 13] from 64 to 96 (fun v b wx => ∃ g, v = .pointer (some ⟨g, 0, none⟩) ∧ Hid (wx.heap[g]? = some (.cells #[.int .i64 sl, .int .i64 sh] 31 (0, 0))) ∧ Hid (Below wr.heap.size wr wx))
                  case first =>
                    have KA : ∀ W' : World, Below wr.heap.size wr W' → (W'.cell? ⟨w.heap.size, 0, none⟩ = some (.int .i64 tol) ∧ W'.cell? ⟨w.heap.size, 1, none⟩ = some (.slice sa n sc) ∧ W'.cell? ⟨w.heap.size, 2, none⟩ = some (.slice (some ⟨eb, eo, none⟩) m ec) ∧ W'.cell? ⟨eb, eo + j * 3, none⟩ = some (.int .i64 da) ∧ W'.cell? ⟨eb, eo + j * 3 + 1, none⟩ = some (.int .i64 db) ∧ W'.cell? ⟨eb, eo + j * 3 + 2, none⟩ = some (.slice pa np pc) ∧ Below wr.heap.size wr W') := fun W' hb => ⟨keepK c0 hb, keepK c1 hb, keepK c2 hb, keepK d0 hb, keepK d1 hb, keepK d2 hb, hb⟩
                    refine wp_region_noPanic ?_
                    refine wp_region_held_drew (S := (fun W' => W'.cell? ⟨w.heap.size, 0, none⟩ = some (.int .i64 tol) ∧ W'.cell? ⟨w.heap.size, 1, none⟩ = some (.slice sa n sc) ∧ W'.cell? ⟨w.heap.size, 2, none⟩ = some (.slice (some ⟨eb, eo, none⟩) m ec) ∧ W'.cell? ⟨eb, eo + j * 3, none⟩ = some (.int .i64 da) ∧ W'.cell? ⟨eb, eo + j * 3 + 1, none⟩ = some (.int .i64 db) ∧ W'.cell? ⟨eb, eo + j * 3 + 2, none⟩ = some (.slice pa np pc) ∧ Below wr.heap.size wr W')) (by kernel_rfl) ?_ (fun hh0 => ?_)
                    · exact KA _ (Below.refl _ _).drew
                    refine wpAnyH_take (i := 0) (v := ?_) rfl (by as_aux_lemma => kernel_rfl) (by as_aux_lemma => kernel_rfl) (by as_aux_lemma => kernel_rfl) (fun _ _ _ h => h) (Or.inl ⟨by rfl, ?_⟩) (by assumption) ?_
                    rotate_left
                    · intro w hSw
                      try dsimp only at hSw
                      go_simp
                      try with_reducible rfl
                    try simp only [Act.put, List.getElem_toArray, List.getElem_cons_succ, List.getElem_cons_zero, List.setIfInBounds_toArray, List.set_cons_zero, List.set_cons_succ]
                    refine wpAnyH_take (i := 1) (v := ?_) rfl (by as_aux_lemma => kernel_rfl) (by as_aux_lemma => kernel_rfl) (by as_aux_lemma => kernel_rfl) (fun _ _ _ h => h) (Or.inl ⟨by rfl, ?_⟩) (by assumption) ?_
                    rotate_left
                    · intro w hSw
                      try dsimp only at hSw
                      go_simp
                      try with_reducible rfl
                    try simp only [Act.put, List.getElem_toArray, List.getElem_cons_succ, List.getElem_cons_zero, List.setIfInBounds_toArray, List.set_cons_zero, List.set_cons_succ]
                    refine wpAnyH_take (i := 2) (v := ?_) rfl (by as_aux_lemma => kernel_rfl) (by as_aux_lemma => kernel_rfl) (by as_aux_lemma => kernel_rfl) (fun _ _ _ h => h) (Or.inl ⟨by rfl, ?_⟩) (by assumption) ?_
                    rotate_left
                    · intro w hSw
                      try dsimp only at hSw
                      go_simp
                      try with_reducible rfl
                    try simp only [Act.put, List.getElem_toArray, List.getElem_cons_succ, List.getElem_cons_zero, List.setIfInBounds_toArray, List.set_cons_zero, List.set_cons_succ]
                    refine wpAnyH_take (i := 3) (v := ?_) rfl (by as_aux_lemma => kernel_rfl) (by as_aux_lemma => kernel_rfl) (by as_aux_lemma => kernel_rfl) (fun _ _ _ h => h) (Or.inl ⟨by rfl, ?_⟩) (by assumption) ?_
                    rotate_left
                    · intro w hSw
                      try dsimp only at hSw
                      go_simp
                      try with_reducible rfl
                    try simp only [Act.put, List.getElem_toArray, List.getElem_cons_succ, List.getElem_cons_zero, List.setIfInBounds_toArray, List.set_cons_zero, List.set_cons_succ]
                    refine wpAnyH_take (i := 4) (v := ?_) rfl (by as_aux_lemma => kernel_rfl) (by as_aux_lemma => kernel_rfl) (by as_aux_lemma => kernel_rfl) (fun _ _ _ h => h) (Or.inl ⟨by rfl, ?_⟩) (by assumption) ?_
                    rotate_left
                    · intro w hSw
                      try dsimp only at hSw
                      go_simp
                      try with_reducible rfl
                    try simp only [Act.put, List.getElem_toArray, List.getElem_cons_succ, List.getElem_cons_zero, List.setIfInBounds_toArray, List.set_cons_zero, List.set_cons_succ]
                    refine wpAnyH_take (i := 5) (v := ?_) rfl (by as_aux_lemma => kernel_rfl) (by as_aux_lemma => kernel_rfl) (by as_aux_lemma => kernel_rfl) (fun _ _ _ h => h) (Or.inl ⟨by rfl, ?_⟩) (by assumption) ?_
                    rotate_left
                    · intro w hSw
                      try dsimp only at hSw
                      go_simp
                      try with_reducible rfl
                    try simp only [Act.put, List.getElem_toArray, List.getElem_cons_succ, List.getElem_cons_zero, List.setIfInBounds_toArray, List.set_cons_zero, List.set_cons_succ]
                    refine wpAnyH_ready (rs := [6, 10]) (by as_aux_lemma => kernel_rfl) (by simp) ?_
                    refine AllReadyH.cons rfl (fun K hK => ?_) (AllReadyH.cons rfl (fun K hK => ?_) AllReadyH.nil)
                    · skip
                      go_simp
                      refine (HF.out _ hh0.2.2.2.2.2.2).mono ?_
                      rintro e w8 ⟨rfl, hb8⟩
                      refine hK.out _ _ (KA _ (Below.trans hh0.2.2.2.2.2.2 (Below.mono hb8 (hh0.2.2.2.2.2.2).size))) (fun hh1 => ?_)
                      clear hK K
                      try simp only [Act.put, List.getElem_toArray, List.getElem_cons_succ, List.getElem_cons_zero, List.setIfInBounds_toArray, List.set_cons_zero, List.set_cons_succ]
                      refine wpAnyH_take (i := 7) (v := ?_) rfl (by as_aux_lemma => kernel_rfl) (by as_aux_lemma => kernel_rfl) (by as_aux_lemma => kernel_rfl) (fun _ _ _ h => h) (Or.inl ⟨by rfl, ?_⟩) (by assumption) ?_
                      rotate_left
                      · intro w hSw
                        try dsimp only at hSw
                        go_simp
                        try with_reducible rfl
                      try simp only [Act.put, List.getElem_toArray, List.getElem_cons_succ, List.getElem_cons_zero, List.setIfInBounds_toArray, List.set_cons_zero, List.set_cons_succ]
                      refine wpAnyH_take (i := 8) (v := ?_) rfl (by as_aux_lemma => kernel_rfl) (by as_aux_lemma => kernel_rfl) (by as_aux_lemma => kernel_rfl) (fun _ _ _ h => h) (Or.inl ⟨by rfl, ?_⟩) (by assumption) ?_
                      rotate_left
                      · intro w hSw
                        try dsimp only at hSw
                        go_simp
                        try with_reducible rfl
                      try simp only [Act.put, List.getElem_toArray, List.getElem_cons_succ, List.getElem_cons_zero, List.setIfInBounds_toArray, List.set_cons_zero, List.set_cons_succ]
                      refine wpAnyH_take (i := 9) (v := ?_) rfl (by as_aux_lemma => kernel_rfl) (by as_aux_lemma => kernel_rfl) (by as_aux_lemma => kernel_rfl) (fun _ _ _ h => h) (Or.inl ⟨by rfl, ?_⟩) (by assumption) ?_
                      rotate_left
                      · intro w hSw
                        try dsimp only at hSw
                        go_simp
                        try with_reducible rfl
                      try simp only [Act.put, List.getElem_toArray, List.getElem_cons_succ, List.getElem_cons_zero, List.setIfInBounds_toArray, List.set_cons_zero, List.set_cons_succ]
                      refine wpAnyH_ready (rs := [10]) (by as_aux_lemma => kernel_rfl) (by simp) ?_
                      refine AllReadyH.cons rfl (fun K hK => ?_) AllReadyH.nil
                      go_simp
                      refine hK.out _ _ (KA _ ((hh1.2.2.2.2.2.2).alloc (hh1.2.2.2.2.2.2).size _)) (fun hh2 => ?_)
                      clear hK K
                      try simp only [Act.put, List.getElem_toArray, List.getElem_cons_succ, List.getElem_cons_zero, List.setIfInBounds_toArray, List.set_cons_zero, List.set_cons_succ]
                      refine wpAnyH_ready (rs := [11]) (by as_aux_lemma => kernel_rfl) (by simp) ?_
                      refine AllReadyH.cons rfl (fun K hK => ?_) AllReadyH.nil
                      go_simp
                      refine hK.out _ _ ?_ (fun hh3 => ?_)
                      · first | exact KA _ (two_below hh2.2.2.2.2.2.2 (by omega)) | exact KA _ ((hh2.2.2.2.2.2.2).setCell (by simp; omega) _) | exact KA _ ((hh0.2.2.2.2.2.2).alloc (hh0.2.2.2.2.2.2).size _) | exact KA _ ((hh1.2.2.2.2.2.2).alloc (hh1.2.2.2.2.2.2).size _)
                      clear hK K
                      try simp only [Act.put, List.getElem_toArray, List.getElem_cons_succ, List.getElem_cons_zero, List.setIfInBounds_toArray, List.set_cons_zero, List.set_cons_succ]
                      refine wpAnyH_ready (rs := [12]) (by as_aux_lemma => kernel_rfl) (by simp) ?_
                      refine AllReadyH.cons rfl (fun K hK => ?_) AllReadyH.nil
                      go_simp
                      refine hK.out _ _ hh3 (fun hh4 => ?_)
                      clear hK K
                      try simp only [Act.put, List.getElem_toArray, List.getElem_cons_succ, List.getElem_cons_zero, List.setIfInBounds_toArray, List.set_cons_zero, List.set_cons_succ]
                      refine wpAnyH_done (by as_aux_lemma => kernel_rfl) ?_ _
                      refine NoPanic.normal ?_
                      have HBZ := Lib.hid (hh4.2.2.2.2.2.2)
                      go_wp2_with fail
                      go_meet
                      case rel => first | exact ⟨_, rfl, heap_alloc_new w8 _, HBZ⟩ | exact ⟨_, rfl, two_set z8, HBZ⟩
                    · skip
                      go_simp
                      refine hK.out _ _ (KA _ ((hh0.2.2.2.2.2.2).alloc (hh0.2.2.2.2.2.2).size _)) (fun hh1 => ?_)
                      clear hK K
                      try simp only [Act.put, List.getElem_toArray, List.getElem_cons_succ, List.getElem_cons_zero, List.setIfInBounds_toArray, List.set_cons_zero, List.set_cons_succ]
                      refine wpAnyH_ready (rs := [6]) (by as_aux_lemma => kernel_rfl) (by simp) ?_
                      refine AllReadyH.cons rfl (fun K hK => ?_) AllReadyH.nil
                      go_simp
                      refine (HF.out _ hh1.2.2.2.2.2.2).mono ?_
                      rintro e w8 ⟨rfl, hb8⟩
                      have z8 := (hb8.block wr.heap.size (by simp)).trans (heap_alloc_new wr.drew (Obj.cells #[.int .i64 0, .int .i64 0] 31))
                      have y0 := cellOf z8 0 _ rfl
                      have y1 := cellOf z8 1 _ rfl
                      have g0 := frozen_of_row _ _ 0 _ _ z8
                      have g1 := frozen_of_row _ _ 1 _ _ z8
                      have zl := lt_of_block z8
                      refine hK.out _ _ (KA _ (Below.trans hh1.2.2.2.2.2.2 (Below.mono hb8 (hh1.2.2.2.2.2.2).size))) (fun hh2 => ?_)
                      clear hK K
                      try simp only [Act.put, List.getElem_toArray, List.getElem_cons_succ, List.getElem_cons_zero, List.setIfInBounds_toArray, List.set_cons_zero, List.set_cons_succ]
                      refine wpAnyH_take (i := 7) (v := ?_) rfl (by as_aux_lemma => kernel_rfl) (by as_aux_lemma => kernel_rfl) (by as_aux_lemma => kernel_rfl) (fun _ _ _ h => h) (Or.inl ⟨by rfl, ?_⟩) (by assumption) ?_
                      rotate_left
                      · intro w hSw
                        try dsimp only at hSw
                        go_simp
                        try with_reducible rfl
                      try simp only [Act.put, List.getElem_toArray, List.getElem_cons_succ, List.getElem_cons_zero, List.setIfInBounds_toArray, List.set_cons_zero, List.set_cons_succ]
                      refine wpAnyH_take (i := 8) (v := ?_) rfl (by as_aux_lemma => kernel_rfl) (by as_aux_lemma => kernel_rfl) (by as_aux_lemma => kernel_rfl) (fun _ _ _ h => h) (Or.inl ⟨by rfl, ?_⟩) (by assumption) ?_
                      rotate_left
                      · intro w hSw
                        try dsimp only at hSw
                        go_simp
                        try with_reducible rfl
                      try simp only [Act.put, List.getElem_toArray, List.getElem_cons_succ, List.getElem_cons_zero, List.setIfInBounds_toArray, List.set_cons_zero, List.set_cons_succ]
                      refine wpAnyH_take (i := 9) (v := ?_) rfl (by as_aux_lemma => kernel_rfl) (by as_aux_lemma => kernel_rfl) (by as_aux_lemma => kernel_rfl) (fun _ _ _ h => h) (Or.inl ⟨by rfl, ?_⟩) (by assumption) ?_
                      rotate_left
                      · intro w hSw
                        try dsimp only at hSw
                        go_simp
                        try with_reducible rfl
                      try simp only [Act.put, List.getElem_toArray, List.getElem_cons_succ, List.getElem_cons_zero, List.setIfInBounds_toArray, List.set_cons_zero, List.set_cons_succ]
                      refine wpAnyH_ready (rs := [11]) (by as_aux_lemma => kernel_rfl) (by simp) ?_
                      refine AllReadyH.cons rfl (fun K hK => ?_) AllReadyH.nil
                      go_simp
                      refine hK.out _ _ ?_ (fun hh3 => ?_)
                      · first | exact KA _ (two_below hh2.2.2.2.2.2.2 (by omega)) | exact KA _ ((hh2.2.2.2.2.2.2).setCell (by simp; omega) _) | exact KA _ ((hh0.2.2.2.2.2.2).alloc (hh0.2.2.2.2.2.2).size _) | exact KA _ ((hh1.2.2.2.2.2.2).alloc (hh1.2.2.2.2.2.2).size _)
                      clear hK K
                      try simp only [Act.put, List.getElem_toArray, List.getElem_cons_succ, List.getElem_cons_zero, List.setIfInBounds_toArray, List.set_cons_zero, List.set_cons_succ]
                      refine wpAnyH_ready (rs := [12]) (by as_aux_lemma => kernel_rfl) (by simp) ?_
                      refine AllReadyH.cons rfl (fun K hK => ?_) AllReadyH.nil
                      go_simp
                      refine hK.out _ _ hh3 (fun hh4 => ?_)
                      clear hK K
                      try simp only [Act.put, List.getElem_toArray, List.getElem_cons_succ, List.getElem_cons_zero, List.setIfInBounds_toArray, List.set_cons_zero, List.set_cons_succ]
                      refine wpAnyH_done (by as_aux_lemma => kernel_rfl) ?_ _
                      refine NoPanic.normal ?_
                      have HBZ := Lib.hid (hh4.2.2.2.2.2.2)
                      go_wp2_with fail
                      go_meet
                      case rel => first | exact ⟨_, rfl, heap_alloc_new w8 _, HBZ⟩ | exact ⟨_, rfl, two_set z8, HBZ⟩
                  case rest =>
                    obtain ⟨g, rfl, hg, hbw⟩ := hcut
                    have HL8 := Lib.hid (HBB.out.trans (hbw.out.mono HBB.out.size))
                    have e0 := kpB hbw.out E0.out
                    have x0 := cellOf hg.out 0 _ rfl
                    have x1 := cellOf hg.out 1 _ rfl
                    have xl := lt_of_block hg.out
                    clear c0 c1 c2 cl d0 d1 d2 HF hbw R4 HL4 HC4 E0 hg
                    by_cases hx : 0 < x
                    · have HS2 : Hid (bndE (wsC c) (pad8 l) (j + 1) = bj + xsl) := by show _ = _; rw [HST.out, if_pos hx]
                      clear HST
                      go_wp2_with fail
                      go_quiet (fail)
                      have HBN : Hid (Below w3.heap.size w3 (wc.drewN nq)) := HL8.out.trans ⟨rfl, rfl, rfl, Nat.le_refl _, fun _ _ => rfl⟩
                      clear e0 x0 x1 xl
                      go_wp2
                      go_roundg (gk - 1)
                      case measure => omega
                      case rel => exact ⟨j + 1, by omega, by go_num, by rw [HS2.out], HBN⟩
                    · have HS2 : Hid (bndE (wsC c) (pad8 l) (j + 1) = bj + xsh) := by show _ = _; rw [HST.out, if_neg hx]
                      clear HST
                      go_wp2_with fail
                      go_quiet (fail)
                      have HBN : Hid (Below w3.heap.size w3 (wc.drewN nq)) := HL8.out.trans ⟨rfl, rfl, rfl, Nat.le_refl _, fun _ _ => rfl⟩
                      clear e0 x0 x1 xl
                      go_wp2
                      go_roundg (gk - 1)
                      case measure => omega
                      case rel => exact ⟨j + 1, by omega, by go_num, by rw [HS2.out], HBN⟩
                · have jI : ¬ (j : Int) < (k : Int) := by omega
                  have HJ : Hid (j = c.eds.length) := by show _ = _; rw [HM.out, ← HNM.out]; omega
                  have HG := rgiven_any c HV.out _ _ _ l wr HC4.out HL4.out (by rw [HP.out, HM.out]; exact HNM.out) HIN.out.2
                  rw [HTOL.out] at HG
                  have HGI := Lib.hid HG
                  have hbe := HBE.out j
                  have HBJ : Hid (bndE (wsC c) (pad8 l) j = bndE (wsC c) (pad8 l) c.eds.length) := by show _ = _; rw [HJ.out]
                  have hjk : (j : Int) ≤ 8 := by omega
                  have HSB := Lib.hid (bndS_bd c.shs HV.out.sh (givTo c.eds l c.eds.length) (fun i => by
                    have h := givTo_bd c.eds l HIN.out.2 (fun k hk => by
                      have h := HV.out.ed _ (List.getElem_mem hk)
                      rw [getD_lt _ _ hk]
                      have := h.a0; have := h.b0; have := h.ne
                      omega) c.eds.length (Nat.le_refl _) i
                    have := HV.out.m8
                    omega) (bndE (wsC c) (pad8 l) j) (by omega) (by omega))
                  have HGB : Hid (∀ i, -800000 ≤ (givTo c.eds l c.eds.length).getD i 0 ∧ (givTo c.eds l c.eds.length).getD i 0 ≤ 800000) := fun i => by
                    have h := givTo_bd c.eds l HIN.out.2 (fun k hk => by
                      have h := HV.out.ed _ (List.getElem_mem hk)
                      rw [getD_lt _ _ hk]
                      have := h.a0; have := h.b0; have := h.ne
                      omega) c.eds.length (Nat.le_refl _) i
                    have := HV.out.m8
                    omega
                  generalize bndE (wsC c) (pad8 l) j = bj at *
                  clear hlt hk hbe hjk HG HJ HWB HBE
                  go_wp2_with fail
                  refine HGI.out.mono ?_
                  rintro e w5 ⟨gv, rfl, hgi, hb5⟩
                  have R5 := Lib.hid ((hb5.block _ (lt_of_block R4.out)).trans R4.out)
                  have HC5 := Lib.hid (HC4.out.below hb5)
                  have HB5 := Lib.hid ((HB3.out.trans (HBB.out.mono HB3.out.size)).trans (hb5.mono (Nat.le_trans HB3.out.size HBB.out.size)))
                  have hlen : (givN c l c.eds.length).length = n := by unfold givN; rw [List.length_take, givTo_length, HN.out]; omega
                  obtain ⟨_, ga, gc, rfl, _⟩ := id hgi
                  rw [hlen] at hgi ⊢
                  have HGV := Lib.hid hgi
                  have HGL := Lib.hid hlen
                  clear hgi hlen HGI R4 HL4 HC4 HBB HB3 hb5 c0 c1 c2 cl
                  go_wp2_with fail
                  go_loopg [10, 15] n (fun gh bv i wr => ∃ q : Nat, gh + q = n ∧ i = .int .i64 (q : Int) ∧ bv = .int .i64 (bndS c.shs (givTo c.eds l c.eds.length) bj q) ∧ Hid (Below w5.heap.size w5 wr))
                  case atStart => exact ⟨0, by omega, rfl, rfl, Below.refl _ _⟩
                  case round =>
                    obtain ⟨q, hq, rfl, rfl, HBB⟩ := hrel
                    by_cases hlt : q < n
                    · have qI : (q : Int) < (n : Int) := by omega
                      have hqs : q < c.shs.length := by rw [HN.out]; exact hlt
                      have hqg : q < (givN c l c.eds.length).length := by rw [HGL.out]; exact hlt
                      obtain ⟨gb, go, rfl, e0⟩ := (HGV.out.below HBB.out).get hqg
                      obtain ⟨sb, so, rfl, d0, d1, d2⟩ := (HC5.out.below HBB.out).shs.get hqs
                      have c1 := cellOf ((HBB.out.block _ (lt_of_block R5.out)).trans R5.out) 1 _ rfl
                      have hge : (givN c l c.eds.length)[q] = (givTo c.eds l c.eds.length).getD q 0 := by
                        rw [show (givN c l c.eds.length)[q] = (givN c l c.eds.length).getD q 0 by simp [List.getD_eq_getElem?_getD, hqg]]
                        unfold givN
                        simp [List.getD_eq_getElem?_getD, List.getElem?_take, hqs]
                      rw [hge] at e0
                      have hsk := HV.out.sh _ (List.getElem_mem hqs)
                      have hgx := HGB.out q
                      have hbq := HSB.out q (by rw [HN.out]; omega)
                      have HST : Hid (bndS c.shs (givTo c.eds l c.eds.length) bj (q + 1) = bndS c.shs (givTo c.eds l c.eds.length) bj q - c.shs[q].most * max 0 (absI ((givTo c.eds l c.eds.length).getD q 0) - c.shs[q].wt)) := by
                        show _ = _
                        simp only [bndS]
                        rw [getD_lt _ _ hqs]
                      obtain ⟨w0, w20, m0, m6⟩ := hsk
                      generalize bndS c.shs (givTo c.eds l c.eds.length) bj q = bq at *
                      generalize (givTo c.eds l c.eds.length).getD q 0 = x at *
                      generalize c.shs[q] = s at *
                      obtain ⟨nm, wt, most⟩ := s
                      simp only at d0 d1 d2 w0 w20 m0 m6 HST
                      have HAB : Hid (∀ n, Calls Try.prog 69 #[.int .i64 x] (wr.drewN n) fun e w'' => e = .returned (.int .i64 (absI x)) ∧ ∃ m, w'' = wr.drewN m) := fun n => (rabs_any x (by omega) (wr.drewN n)).mono fun _ _ ⟨he, hm⟩ => ⟨he, n, hm.symm⟩
                      have hz : 0 ≤ absI x ∧ absI x ≤ 800000 := by unfold absI; omega
                      generalize absI x = z at *
                      obtain ⟨dd, hdd⟩ : ∃ d, z - wt = d := ⟨_, rfl⟩
                      rw [hdd] at HST
                      have s0 : IntKind.i64.wrap (z - wt) = dd := by rw [← hdd, IntKind.wrap_i64] <;> omega
                      obtain ⟨mx, hmx⟩ : ∃ d, max 0 dd = d := ⟨_, rfl⟩
                      rw [hmx] at HST
                      have hmi : (if (0 : Int) < dd then dd else 0) = mx := by rw [← hmx]; split <;> omega
                      have hmul := mul_in (a := most) (b := mx) (A := 6) (B := 800000) (by omega) (by omega) (by omega) (by omega)
                      have s1 : IntKind.i64.wrap (most * mx) = most * mx := by rw [IntKind.wrap_i64] <;> omega
                      have hqn : (q : Int) ≤ 5 := by omega
                      have s2 : IntKind.i64.wrap (bq - most * mx) = bq - most * mx := by rw [IntKind.wrap_i64] <;> omega
                      generalize hmm : most * mx = mm at *
                      clear hqs hqg hge hgx hbq hdd hmx hmul
                      go_wp2_with fail
                      go_quiet ((go_at_call 69; exact HAB.out _))
                      have HBN : Hid (Below w5.heap.size w5 (wr.drewN nq)) := HBB.out.trans ⟨rfl, rfl, rfl, Nat.le_refl _, fun _ _ => rfl⟩
                      clear d0 d1 d2 e0 c1
                      go_wp2
                      go_roundg (gk - 1)
                      case measure => omega
                      case rel => exact ⟨q + 1, by omega, by go_num, by rw [HST.out], HBN⟩
                    · have qI : ¬ (q : Int) < (n : Int) := by omega
                      obtain rfl : q = n := by omega
                      have hr := HR1.out
                      unfold bndC at hr
                      rw [givTo_pad _ _ (by rw [HP.out]; exact k8), ← HBJ.out, HN.out] at hr
                      subst hr
                      clear hlt hq
                      go_wp2
                      go_ret2
                      exact ⟨rfl, HB5.out.trans (HBB.out.mono HB5.out.size)⟩
            · have hr := boundE_torn HER.out (by rw [HP.out, HM.out]; exact HNM.out) HIN.out.1 ht
              rw [HRS.out] at hr
              simp only [Prod.mk.injEq] at hr
              obtain ⟨rfl, rfl⟩ := hr
              clear ht
              go_wp2
              go_ret2
              exact ⟨rfl, HB3.out⟩
        · have tz : (er == 0) = false := by simp [h0]
          have tz2 : (er != 0) = true := by simp [h0]
          obtain ⟨rfl, rfl⟩ : r1 = 0 ∧ er = r2 := by
            rcases HZ.out with h | h
            · exact absurd h.1 h0
            · exact h.2
          clear h0 HZ
          by_cases hlt : k < p
          · have kI : (k : Int) < (p : Int) := by omega
            go_wp2
            go_ret2
            exact ⟨rfl, HB1.out.trans (HBB.out.mono HB1.out.size)⟩
          · have kI : ¬ (k : Int) < (p : Int) := by omega
            go_wp2
            go_ret2
            exact ⟨rfl, HB1.out.trans (HBB.out.mono HB1.out.size)⟩
    · have tnm : ((p : Int) != (m : Int)) = true := by simp; omega
      have hr := boundE_len HER.out (show l.length ≠ c.eds.length by rw [HP.out, HM.out]; exact hnm)
      rw [HRS.out] at hr
      simp only [Prod.mk.injEq] at hr
      obtain ⟨rfl, rfl⟩ := hr
      clear hnm
      go_wp2_with fail
      go_loopg [8, 9] p (fun gh ee i wr => ee = .int .i64 3 ∧ i = .int .i64 0 ∧ Hid (Below w1.heap.size w1 wr))
      case atStart => exact ⟨rfl, rfl, Below.refl _ _⟩
      case round =>
        obtain ⟨rfl, rfl, HBB⟩ := hrel
        clear c2 cl tnm
        by_cases hlt : 0 < p
        · have kI : (0 : Int) < (p : Int) := by omega
          go_wp2
          go_ret2
          exact ⟨rfl, HB1.out.trans (HBB.out.mono HB1.out.size)⟩
        · have kI : ¬ (0 : Int) < (p : Int) := by omega
          clear hlt
          go_wp2
          go_ret2
          exact ⟨rfl, HB1.out.trans (HBB.out.mono HB1.out.size)⟩
  · have tz : (er == 0) = false := by simp [h0]
    have tz2 : (er != 0) = true := by simp [h0]
    have hr := boundE_err (c := c) (l := l) (by rw [HER.out]; exact h0)
    rw [HRS.out, HER.out] at hr
    simp only [Prod.mk.injEq] at hr
    obtain ⟨rfl, rfl⟩ := hr
    clear h0
    go_wp2_with fail
    go_loopg [8, 9] p (fun gh ee i wr => ee = .int .i64 r2 ∧ i = .int .i64 0 ∧ Hid (Below w1.heap.size w1 wr))
    case atStart => exact ⟨rfl, rfl, Below.refl _ _⟩
    case round =>
      obtain ⟨rfl, rfl, HBB⟩ := hrel
      clear c2 cl
      by_cases hlt : 0 < p
      · have kI : (0 : Int) < (p : Int) := by omega
        go_wp2
        go_ret2
        exact ⟨rfl, HB1.out.trans (HBB.out.mono HB1.out.size)⟩
      · have kI : ¬ (0 : Int) < (p : Int) := by omega
        clear hlt
        go_wp2
        go_ret2
        exact ⟨rfl, HB1.out.trans (HBB.out.mono HB1.out.size)⟩
end Go.Proofs.Ythhlakodnpopmaa
namespace Go.Proofs.Ythhlakodnpopmaa
open Go Go.RowKit Ed Go.ChangeShapes Go.WideShapes Go.Deep Go.Joins

def I16At (w : World) (v : Value) (l : List Int) : Prop :=
  l.length ≤ 4611686018427387904 ∧ ∃ a cap, v = .slice a l.length cap ∧ (l ≠ [] → ∃ b o, a = some ⟨b, o, none⟩ ∧ ∀ k, k < l.length → w.cell? ⟨b, o + k, none⟩ = some (.int .i16 (l.getD k 0)) ∧ -32768 ≤ l.getD k 0 ∧ l.getD k 0 ≤ 32767)
theorem I16At.below {w w' : World} {v : Value} {l : List Int} (h : I16At w v l) (hb : Below w.heap.size w w') : I16At w' v l := by
  obtain ⟨h1, a, cap, rfl, h2⟩ := h
  refine ⟨h1, a, cap, rfl, fun hne => ?_⟩
  obtain ⟨b, o, rfl, hc⟩ := h2 hne
  exact ⟨b, o, rfl, fun k hk => ⟨(hb.cell (p := ⟨b, o + k, none⟩) (World.block_lt_of_cell? w _ (hc k hk).1)).trans (hc k hk).1, (hc k hk).2⟩⟩
/-- What a law reads at an index, round and round. -/
def turnI (l : List Int) (n : Nat) : Int := if l = [] then 0 else l.getD (n % l.length) 0
theorem turnI_bd {w : World} {v : Value} {l : List Int} (h : I16At w v l) (n : Nat) : -32768 ≤ turnI l n ∧ turnI l n ≤ 32767 := by
  unfold turnI
  split
  · omega
  · rename_i hne
    obtain ⟨_, a, cap, _, h2⟩ := h
    obtain ⟨b, o, _, hc⟩ := h2 hne
    exact (hc (n % l.length) (Nat.mod_lt _ (List.length_pos_iff.2 hne))).2
theorem cellsI16 : Try.prog.cellsOf 54 = 1 := by kernel_rfl
theorem bytesI16 : Try.prog.bytesOf 54 = 2 := by kernel_rfl
section
variable {H : Type} {enc : TypeId × Value → H} {W : World} {sp : Nat → Bool} {base : Nat} {v : Value} {d : DataW H} {p : List MemPlace}
set_option maxRecDepth 100000 in
theorem open_i16s (hok : Value.okWide Try.prog W .any base 52 v) (h : DataW.Trod enc Try.prog W 0 sp true 52 v d p) (hw : ∀ x ∈ d.weights Try.prog 52, x ≤ reachBytes) :
    ∃ l : List Int, I16At W v l := by
  obtain ⟨a0, len0, cap0, rfl⟩ := okWide_slice Try.underlying52 hok
  obtain ⟨fuel, hf⟩ := h
  have hf' : DataW.trod enc Try.prog W 0 sp true fuel 52 [.slice a0 len0 cap0] = some (d, p) := hf
  rcases open_slice1 Try.underlying52 cellsI16 hf' with ⟨hcs, _⟩ | ⟨a, len, cap, m, n', V, D, Pl, hcs, _, hl, hm, hmm, hx, hel⟩
  · simp only [List.cons.injEq, Value.slice.injEq, and_true] at hcs
    obtain ⟨rfl, rfl, rfl⟩ := hcs
    exact ⟨[], by simp, none, 0, rfl, fun h => absurd rfl h⟩
  · simp only [List.cons.injEq, Value.slice.injEq, and_true] at hcs
    obtain ⟨rfl, rfl, rfl⟩ := hcs
    have hlm : len0 ≤ m := by rw [hmm]; split <;> omega
    have hd : d = .slice ((List.range len0).map D) ((List.range (m - len0)).map fun j => D (len0 + j)) := congrArg Prod.fst hx
    have hb : len0 * 2 ≤ reachBytes := by
      have := hw ((((List.range len0).map D).length + ((List.range (m - len0)).map fun j => D (len0 + j)).length) * 2) (by rw [hd]; simp [DataW.weights, Try.underlying52, bytesI16])
      simp only [List.length_map, List.length_range] at this
      omega
    have hr : reachBytes = 140737488351232 := rfl
    obtain ⟨f, hfl⟩ := choose_lt (α := Int) (n := len0) (p := fun i x => W.cell? (a.add i) = some (.int .i16 x) ∧ -32768 ≤ x ∧ x ≤ 32767) (fun i hi => by
      obtain ⟨h1, h2⟩ := hel i (by omega)
      obtain ⟨k, e, _, w⟩ := DataW.trod_int Try.underlying54 h2
      simp only [List.cons.injEq, and_true] at e
      have bd := bounds_i16 w
      exact ⟨k, by rw [h1, e], bd⟩)
    refine ⟨(List.range len0).map f, by simp; omega, some a, cap0, by simp, fun hne => ?_⟩
    have h0 : 0 < len0 := by
      rcases Nat.eq_zero_or_pos len0 with h | h
      · subst h; exact absurd rfl hne
      · exact h
    obtain ⟨b, o, spot⟩ := a
    have hspot : spot = none := by simpa [Addr.add] using World.cell?_spot (hfl 0 h0).1
    subst hspot
    refine ⟨b, o, rfl, fun k hk => ?_⟩
    have hk' : k < len0 := by simpa using hk
    have hc := hfl k hk'
    rw [add_plain] at hc
    simpa [List.getD_eq_getElem?_getD, hk'] using hc
end
end Go.Proofs.Ythhlakodnpopmaa
namespace Go.Proofs.Ythhlakodnpopmaa
open Go Go.RowKit Go.Shelf Ed

def onK (l : List Int) (k : Nat) : List Int := (List.range k).map (turnI l)
theorem onK_succ (l : List Int) (k : Nat) : onK l (k + 1) = onK l k ++ [turnI l k] := by simp [onK, List.range_succ]
theorem onK_length (l : List Int) (k : Nat) : (onK l k).length = k := by simp [onK]
theorem onK_get (l : List Int) (n k : Nat) (h : k < n) : (onK l n).getD k 0 = turnI l k := by simp [onK, List.getD_eq_getElem?_getD, h]
theorem run_app1 (w : World) (ty : TypeId) (base n : Nat) (v : Value) (xs : List Value) (g : Nat) (x : Int) (hown : w.ownsRow base 3 1 v n xs) (hc : w.cell? ⟨g, 0, none⟩ = some (.int .i64 x)) (hn : n ≤ 1000) (hb : base ≤ w.heap.size) :
    ∃ v' w', (Builtin.append_ #[26, 26] ty #[v, .slice (some ⟨g, 0, none⟩) 1 1]).run Try.prog w = .ok v' w' ∧ w'.ownsRow base 3 1 v' (n + 1) (xs ++ [.int .i64 x]) ∧ w.grownBy w' v.ownBlock ∧ (v'.ownBlock = v.ownBlock ∨ v'.ownBlock = some w.heap.size) := by
  obtain ⟨i0, hi⟩ := info_of_underlying Try.underlying3
  have HI : i0.zero = some (.int .i64 0) ∧ i0.size = 1 ∧ i0.bytes = 8 := by
    have h := intInfo
    rw [hi] at h
    simp at h
    exact h
  obtain ⟨v', w', h1, h2, h3, _, h5⟩ := run_append_own_at (P := Try.prog) w base 26 ty 3 i0 _ 1 8 Try.underlying26 hi HI.1 HI.2.1 HI.2.2 rfl (by decide) v n xs hown ⟨g, 0, none⟩ 1 1 [.int .i64 x] rfl
    (by
      intro j u hj
      match j, hj with
      | 0, hj => simp at hj; subst hj; exact hc
      | j + 1, hj => simp at hj) (by intro u hu; simp at hu; subst hu; rfl) (by unfold maxLen; omega) (by omega) hb
  exact ⟨v', w', h1, h2, h3, h5⟩
theorem wpl_app1 {ops : Array Oper} {rest : List Oper} {o : Oper} {a : Act} {Q : Exit → Act → World → Prop} {w : World} (hgd : o.guard = none) (s x : Operand)
    (ho : o.op = .call { callee := .builtin .append, args := #[s, x], argTypes := #[26, 26] })
    (base n : Nat) (v : Value) (xs : List Value) (g : Nat) (y : Int) (hs : a.eval s = v) (hx : a.eval x = .slice (some ⟨g, 0, none⟩) 1 1) (hown : w.ownsRow base 3 1 v n xs) (hc : w.cell? ⟨g, 0, none⟩ = some (.int .i64 y)) (hn : n ≤ 1000) (hb : base ≤ w.heap.size)
    (h : ∀ v' w', w'.ownsRow base 3 1 v' (n + 1) (xs ++ [.int .i64 y]) → w.grownBy w' v.ownBlock → (v'.ownBlock = v.ownBlock ∨ v'.ownBlock = some w.heap.size) → wpList Try.prog ops Q rest (a.put o.dst v') w') : wpList Try.prog ops Q (o :: rest) a w := by
  refine wpList_plain hgd fun K hK => ?_
  obtain ⟨v', w', hr, h2, h3, h4⟩ := run_app1 w o.type base n v xs g y hown hc hn hb
  unfold Oper.wp execOp
  simp only [ho, resolve, invoke, builtin, Sem.run_bind, Sem.run_pure, Result.andThen_ok, List.map_toArray, List.map_cons, List.map_nil, hs, hx, hr]
  exact hK _ _ (h v' w' h2 h3 h4)
/-- Rows that lie in different blocks. -/
def Dis (a b : Option Nat) : Prop := ∀ q, a = some q → b ≠ some q
theorem Dis.or {a b : Option Nat} (h : Dis a b) : b = none ∨ b ≠ a := by
  cases b with
  | none => exact .inl rfl
  | some q => exact .inr fun e => h q e.symm rfl
theorem Dis.symm {a b : Option Nat} (h : Dis a b) : Dis b a := fun q hq e => h q e hq
theorem Dis.next {a b c : Option Nat} {n : Nat} (h : Dis a b) (hc : c = a ∨ c = some n) (hb : ∀ q, b = some q → q < n) : Dis c b := by
  intro q hq e
  rcases hc with rfl | rfl
  · exact h q hq e
  · have := hb q e
    simp only [Option.some.injEq] at hq
    omega
end Go.Proofs.Ythhlakodnpopmaa
namespace Go.Proofs.Ythhlakodnpopmaa
open Go Go.RowKit Go.Shelf Ed

/-- What Proof answers. -/
def proofE (c : Cas) : List Int × Int :=
  if errC c ≠ 0 then ([], errC c) else if tornK (wsC c) c.eds.length = true then ([], 9) else match proofGo c (wsC c) 700 z8 with
    | some r => (r.take c.eds.length, 0)
    | none => ([], 0)
theorem proof1_any (c : Cas) (sv ev : Value) (w : World) (hC : CasAt w c sv ev) :
    Calls Try.prog 40 #[.agg #[.int .i64 c.tol, sv, ev]] w fun e w' => ∃ v, e = .returned (.tuple #[v, .int .i64 (proofE c).2]) ∧ IntsAt w' v (proofE c).1 ∧ Below w.heap.size w w' := by
  refine (proofT_any c sv ev w hC).mono fun e w' ⟨h1, h2, h3, hb⟩ => ?_
  have hnil : IntsAt w' (.slice none 0 0) [] := ⟨by simp, none, 0, rfl, Nat.le_refl _, fun h => absurd rfl h⟩
  unfold proofE
  by_cases h0 : errC c = 0
  · rw [if_neg (by simp [h0])]
    cases ht : tornK (wsC c) c.eds.length
    · rw [if_neg (by simp)]
      obtain ⟨r, hr, _⟩ := proof_spec c (valid_of h0) ht
      obtain ⟨v, he, hi⟩ := h3 h0 ht r hr
      rw [hr]
      exact ⟨v, he, hi, hb⟩
    · rw [if_pos rfl]
      exact ⟨_, h2 h0 ht, hnil, hb⟩
  · rw [if_pos h0]
    exact ⟨_, h1 h0, hnil, hb⟩
theorem least_torn (c : Cas) (h : errC c = 0) (ht : tornK (wsC c) c.eds.length = true) : leastE c = ([], 0, 9) := by
  refine least_no c h fun y hy => ?_
  unfold tornK at ht
  rw [List.any_eq_true] at ht
  obtain ⟨i, hi, hx⟩ := ht
  have hx := of_decide_eq_true hx
  have := hy.ed ⟨(c.eds.getD i default).a.toNat, (c.eds.getD i default).b.toNat, (wL (wsC c) i).1, (wL (wsC c) i).2⟩ (by simp only [sysC, List.mem_map]; exact ⟨i, hi, rfl⟩)
  simp only at this
  omega
theorem bndC_take (c : Cas) (h8 : c.eds.length ≤ 8) (ws r : List Int) : bndC c ws (pad8 (r.take c.eds.length)) = bndC c ws r := by
  have hg : ∀ i, i < c.eds.length → (pad8 (r.take c.eds.length)).getD i 0 = r.getD i 0 := fun i hi => by
    rw [pad8_get _ (by rw [List.length_take]; omega)]
    simp [List.getD_eq_getElem?_getD, List.getElem?_take, hi]
  have e1 : ∀ k, k ≤ c.eds.length → bndE ws (pad8 (r.take c.eds.length)) k = bndE ws r k := by
    intro k
    induction k with
    | zero => intro _; rfl
    | succ k ih => intro hk; simp only [bndE, ih (by omega), hg k (by omega)]
  have e2 : ∀ k, k ≤ c.eds.length → givTo c.eds (pad8 (r.take c.eds.length)) k = givTo c.eds r k := by
    intro k
    induction k with
    | zero => intro _; rfl
    | succ k ih => intro hk; simp only [givTo, ih (by omega), hg k (by omega)]
  unfold bndC
  rw [e1 _ (Nat.le_refl _), e2 _ (Nat.le_refl _)]
theorem proof_facts (c : Cas) (h : errC c = 0) (ht : tornK (wsC c) c.eds.length = false) :
    ∃ p bv, proofE c = (p, 0) ∧ p.length = c.eds.length ∧ boundE c p = (bv, 0) ∧ ((leastE c = ([], 0, 9) ∧ dearC c < bv) ∨ ((leastE c).2.2 = 0 ∧ (leastE c).2.1 = bv)) := by
  have hv := valid_of h
  have h8 := hv.m8
  obtain ⟨r, hr, hl, hb, hc⟩ := proof_spec c hv ht
  have hp : (r.take c.eds.length).length = c.eds.length := by rw [List.length_take]; omega
  refine ⟨r.take c.eds.length, bndC c (wsC c) r, ?_, hp, ?_, ?_⟩
  · unfold proofE
    rw [if_neg (by simp [h]), if_neg (by simp [ht]), hr]
  · have hin := boundE_in (c := c) h hp (fun k hk => by
      have hkr : k < r.length := by rw [List.length_take] at hk; omega
      have := hb k
      rw [show r.getD k 0 = r[k] by simp [List.getD_eq_getElem?_getD, hkr]] at this
      rw [List.getElem_take]
      unfold inB
      simp
      omega)
    rw [boundE_ok h hp hin.1 ht, bndC_take c h8]
  · rcases least_spec c h with ⟨h1, hno⟩ | ⟨h1, h2⟩
    · left
      refine ⟨h1, ?_⟩
      rcases hc with hc | ⟨x, hx, _⟩
      · exact hc
      · exact absurd hx (hno x)
    · right
      refine ⟨h1, ?_⟩
      have hw := bnd_weak c hv (wsC c) ht r _ h2.ag
      have hd := cost_most (sys_fine c hv (wsC c)) h2.ag
      rw [← dearC_eq c (wsC c)] at hd
      rcases hc with hc | ⟨x, hx, hbx⟩
      · omega
      · have h7 : costF (sysC c (wsC c)) (fun i => (leastE c).1.getD i 0) ≤ costF (sysC c (wsC c)) x := h2.mn.2 x hx
        have h8 : (leastE c).2.1 = costF (sysC c (wsC c)) (fun i => (leastE c).1.getD i 0) := h2.cost
        have h9 : bndC c (wsC c) r ≤ costF (sysC c (wsC c)) (fun i => (leastE c).1.getD i 0) := hw
        omega
theorem oth_facts (c : Cas) (h : errC c = 0) (ht : tornK (wsC c) c.eds.length = false) (l : List Int) (hl : ∀ n, -32768 ≤ turnI l n ∧ turnI l n ≤ 32767) :
    ∃ ob, boundE c (onK l c.eds.length) = (ob, 0) ∧ ∀ y, Ag (sysA c) y → ob ≤ costF (sysA c) y := by
  have hv := valid_of h
  have hin := boundE_in (c := c) h (onK_length l c.eds.length) (fun k hk => by
    have := hl k
    simp only [onK, List.getElem_map, List.getElem_range]
    unfold inB
    simp
    omega)
  exact ⟨_, boundE_ok h (onK_length _ _) hin.1 ht, fun y hy => bnd_weak c hv (wsC c) ht _ y hy⟩
theorem any_sm {c : Cas} (hv : Valid c) (x : List Nat) (i : Nat) : -1000 ≤ (anyC c x).getD i 0 ∧ (anyC c x).getD i 0 ≤ 1000 := by
  rcases Nat.lt_or_ge i c.shs.length with hi | hi
  · have h2 := (hv.sh _ (List.getElem_mem hi)).m6
    have h3 := (hv.sh _ (List.getElem_mem hi)).m0
    have e : (anyC c x).getD i 0 = ((turnS x i : Int) % (2 * c.shs[i].most + 1)) - c.shs[i].most := by
      unfold anyC anyK
      simp [List.getD_eq_getElem?_getD, hi]
    rw [e]
    have h4 := Int.emod_nonneg (turnS x i : Int) (show (2 * c.shs[i].most + 1) ≠ 0 by omega)
    have h5 := Int.emod_lt_of_pos (turnS x i : Int) (show 0 < (2 * c.shs[i].most + 1) by omega)
    omega
  · rw [List.getD_eq_getElem?_getD, List.getElem?_eq_none (by rw [anyC_length]; exact hi)]
    simp
set_option maxRecDepth 100000 in
set_option maxHeartbeats 16000000 in
theorem lproof_any (c : Cas) (sv ev pv xv : Value) (l : List Int) (x : List Nat) (w : World) (hC : CasAt w c sv ev) (hL : I16At w pv l) (hX : U8At w xv x) :
    Calls Try.prog 8 #[.agg #[.int .i64 c.tol, sv, ev], pv, xv] w fun e w' => e = .returned (.bool true) ∧ Below w.heap.size w w' := by
  obtain ⟨sa, n, sc, rfl⟩ : ∃ a n cc, sv = .slice a n cc := by obtain ⟨_, a, cap, h, _⟩ := hC.shs; exact ⟨_, _, _, h⟩
  obtain ⟨ea, m, ec, rfl, hm⟩ : ∃ a n cc, ev = .slice a n cc ∧ n = c.eds.length := by obtain ⟨_, a, cap, h, _⟩ := hC.eds; exact ⟨_, _, _, h, rfl⟩
  obtain ⟨pa, p, pc, rfl, hp⟩ : ∃ a n cc, pv = .slice a n cc ∧ n = l.length := by obtain ⟨_, a, cap, h, _⟩ := hL; exact ⟨_, _, _, h, rfl⟩
  obtain ⟨xa, q, xc, rfl⟩ : ∃ a n cc, xv = .slice a n cc := by obtain ⟨_, a, cap, h, _⟩ := hX; exact ⟨_, _, _, h⟩
  obtain ⟨tol, htol⟩ : ∃ t, c.tol = t := ⟨_, rfl⟩
  obtain ⟨i0, hi0⟩ := info_of_underlying Try.underlying3
  have HI0 : Hid (i0.zero = some (.int .i64 0) ∧ i0.size = 1 ∧ i0.bytes = 8) := by
    have h := intInfo
    rw [hi0] at h
    simp at h
    exact h
  have HTOL := Lib.hid htol
  have HM := Lib.hid hm
  have HP := Lib.hid hp
  have plim : (p : Int) ≤ 4611686018427387904 := by have := hL.1; omega
  have mlim : (m : Int) ≤ 4611686018427387904 := by have := hC.eds.1; omega
  obtain ⟨W, hW⟩ : ∃ W, w.alloc (Obj.cells #[.int .i64 tol, .slice sa n sc, .slice ea m ec] 25) = W := ⟨_, rfl⟩
  have hb : Below w.heap.size w W := by rw [← hW]; exact (Below.refl _ _).alloc (Nat.le_refl _) _
  have HR : Hid (W.heap[w.heap.size]? = some (Obj.cells #[.int .i64 tol, .slice sa n sc, .slice ea m ec] 25)) := by show _ = _; rw [← hW]; exact heap_alloc_new w _
  have HTB := Lib.hid (turnI_bd hL)
  have HC := Lib.hid (hC.below hb)
  have HL := Lib.hid (hL.below hb)
  have HX := Lib.hid (hX.below hb)
  have HW := Lib.hid hW
  have HB := Lib.hid hb
  rw [htol]
  clear hW hb hC hX hL htol hm hp
  go_enter Try.func8, Try.ntmps8
  go_wp2_with fail
  rw [HW.out]
  clear HW
  have r0 := cellOf HR.out 0 _ rfl
  have r1 := cellOf HR.out 1 _ rfl
  have r2 := cellOf HR.out 2 _ rfl
  have rl := lt_of_block HR.out
  go_wp2_with fail
  clear r0 r1 r2 rl
  have hcall := proof1_any c _ _ W HC.out
  rw [HTOL.out] at hcall
  refine hcall.mono ?_
  clear hcall
  rintro e w1 ⟨pv1, rfl, hI, hb⟩
  have HR' := Lib.hid ((hb.block _ (lt_of_block HR.out)).trans HR.out)
  have HC' := Lib.hid (HC.out.below hb)
  have HL' := Lib.hid (HL.out.below hb)
  have HX' := Lib.hid (HX.out.below hb)
  have HB' := Lib.hid (HB.out.trans (hb.mono HB.out.size))
  clear HR
  have HR := HR'
  clear HR'
  clear HC
  have HC := HC'
  clear HC'
  clear HL
  have HL := HL'
  clear HL'
  clear HX
  have HX := HX'
  clear HX'
  clear HB
  have HB := HB'
  clear HB'
  clear hb
  have HI := Lib.hid hI
  clear hI
  obtain ⟨⟨pl, per⟩, hpe⟩ : ∃ x, proofE c = x := ⟨_, rfl⟩
  have HPE := Lib.hid hpe
  rw [hpe] at HI ⊢
  clear hpe
  simp only at HI ⊢
  obtain ⟨ua, un, uc, rfl, hun⟩ : ∃ a n cc, pv1 = .slice a n cc ∧ n = pl.length := by obtain ⟨_, a, cap, h, _⟩ := HI.out; exact ⟨_, _, _, h, rfl⟩
  have HUN := Lib.hid hun
  have ulim : (un : Int) ≤ 4611686018427387904 := by have := HI.out.1; omega
  clear hun
  have r0 := cellOf HR.out 0 _ rfl
  have r1 := cellOf HR.out 1 _ rfl
  have r2 := cellOf HR.out 2 _ rfl
  have rl := lt_of_block HR.out
  go_wp2_with fail
  clear r0 r1 r2 rl
  have hcall := least1_any c _ _ w1 HC.out
  rw [HTOL.out] at hcall
  refine hcall.mono ?_
  clear hcall
  rintro e w2 ⟨lv, rfl, hI, hb⟩
  have HR' := Lib.hid ((hb.block _ (lt_of_block HR.out)).trans HR.out)
  have HC' := Lib.hid (HC.out.below hb)
  have HL' := Lib.hid (HL.out.below hb)
  have HX' := Lib.hid (HX.out.below hb)
  have HB' := Lib.hid (HB.out.trans (hb.mono HB.out.size))
  have HI' := Lib.hid (HI.out.below hb)
  clear HR
  have HR := HR'
  clear HR'
  clear HC
  have HC := HC'
  clear HC'
  clear HL
  have HL := HL'
  clear HL'
  clear HX
  have HX := HX'
  clear HX'
  clear HB
  have HB := HB'
  clear HB'
  clear HI
  have HI := HI'
  clear HI'
  clear hb
  have HJ := Lib.hid hI
  clear hI
  obtain ⟨⟨ll, cost, er⟩, hle⟩ : ∃ x, leastE c = x := ⟨_, rfl⟩
  have HLE := Lib.hid hle
  rw [hle] at HJ ⊢
  clear hle
  simp only at HJ ⊢
  obtain ⟨va, vn, vc, rfl, hvn⟩ : ∃ a n cc, lv = .slice a n cc ∧ n = ll.length := by obtain ⟨_, a, cap, h, _⟩ := HJ.out; exact ⟨_, _, _, h, rfl⟩
  have HVN := Lib.hid hvn
  clear hvn
  have r0 := cellOf HR.out 0 _ rfl
  have r1 := cellOf HR.out 1 _ rfl
  have r2 := cellOf HR.out 2 _ rfl
  have rl := lt_of_block HR.out
  go_wp2_with fail
  clear r0 r1 r2 rl
  have hcall := lvalid_any c _ _ w2 HC.out
  rw [HTOL.out] at hcall
  refine hcall.mono ?_
  clear hcall
  rintro e w3 ⟨rfl, hb⟩
  have HR' := Lib.hid ((hb.block _ (lt_of_block HR.out)).trans HR.out)
  have HC' := Lib.hid (HC.out.below hb)
  have HL' := Lib.hid (HL.out.below hb)
  have HX' := Lib.hid (HX.out.below hb)
  have HB' := Lib.hid (HB.out.trans (hb.mono HB.out.size))
  have HI' := Lib.hid (HI.out.below hb)
  have HJ' := Lib.hid (HJ.out.below hb)
  clear HR
  have HR := HR'
  clear HR'
  clear HC
  have HC := HC'
  clear HC'
  clear HL
  have HL := HL'
  clear HL'
  clear HX
  have HX := HX'
  clear HX'
  clear HB
  have HB := HB'
  clear HB'
  clear HI
  have HI := HI'
  clear HI'
  clear HJ
  have HJ := HJ'
  clear HJ'
  clear hb
  by_cases h0 : errC c = 0
  · skip
    have HV := Lib.hid (valid_of h0)
    have H0 := Lib.hid h0
    rw [show decide (errC c = 0) = true by simp [h0]]
    clear h0
    have r0 := cellOf HR.out 0 _ rfl
    have r1 := cellOf HR.out 1 _ rfl
    have r2 := cellOf HR.out 2 _ rfl
    have rl := lt_of_block HR.out
    go_wp2_with fail
    clear r0 r1 r2 rl
    have hcall := rsound_any c HV.out _ _ w3 HC.out
    rw [HTOL.out] at hcall
    refine hcall.mono ?_
    clear hcall
    rintro e w4 ⟨rfl, hb⟩
    have HR' := Lib.hid ((hb.block _ (lt_of_block HR.out)).trans HR.out)
    have HC' := Lib.hid (HC.out.below hb)
    have HL' := Lib.hid (HL.out.below hb)
    have HX' := Lib.hid (HX.out.below hb)
    have HB' := Lib.hid (HB.out.trans (hb.mono HB.out.size))
    have HI' := Lib.hid (HI.out.below hb)
    have HJ' := Lib.hid (HJ.out.below hb)
    clear HR
    have HR := HR'
    clear HR'
    clear HC
    have HC := HC'
    clear HC'
    clear HL
    have HL := HL'
    clear HL'
    clear HX
    have HX := HX'
    clear HX'
    clear HB
    have HB := HB'
    clear HB'
    clear HI
    have HI := HI'
    clear HI'
    clear HJ
    have HJ := HJ'
    clear HJ'
    clear hb
    cases ht : tornK (wsC c) c.eds.length
    · skip
      obtain ⟨pl', bv, hp1, hp2, hp3, hp4⟩ := proof_facts c H0.out ht
      obtain ⟨ob, ho1, ho2⟩ := oth_facts c H0.out ht l HTB.out
      rw [HPE.out] at hp1
      simp only [Prod.mk.injEq] at hp1
      obtain ⟨rfl, rfl⟩ := hp1
      rw [HLE.out] at hp4
      simp only at hp4
      have HBV := Lib.hid hp3
      have HOB := Lib.hid ho1
      have HOC := Lib.hid ho2
      have m8 : m ≤ 8 := by have := HV.out.m8; have := HM.out; omega
      have mI : (m : Int) ≤ 8 := by omega
      have hunm : un = m := by rw [HUN.out, hp2, ← HM.out]
      subst hunm
      have tum : ((un : Int) != (un : Int)) = false := by simp
      clear hp2 hp3 ho1 ho2 ht
      rcases hp4 with ⟨hs, hdb⟩ | ⟨hs, hcb⟩
      · skip
        simp only [Prod.mk.injEq] at hs
        obtain ⟨rfl, rfl, rfl⟩ := hs
        have HAN : Hid (agreeB c (anyC c x) = false) := by
          show _ = _
          cases hq : agreeB c (anyC c x)
          · rfl
          · rcases least_spec c H0.out with ⟨_, hno⟩ | ⟨h9, _⟩
            · exact absurd ((agree_iff c H0.out _).1 hq).2 (hno _)
            · rw [HLE.out] at h9; simp at h9
        have r0 := cellOf HR.out 0 _ rfl
        have r1 := cellOf HR.out 1 _ rfl
        have r2 := cellOf HR.out 2 _ rfl
        have rl := lt_of_block HR.out
        go_wp2_with fail
        clear r0 r1 r2 rl
        have hcall := boundT_any c _ _ _ pl w4 HC.out HI.out
        rw [HTOL.out] at hcall
        refine hcall.mono ?_
        clear hcall
        rintro e w5 ⟨rfl, hb⟩
        have HR' := Lib.hid ((hb.block _ (lt_of_block HR.out)).trans HR.out)
        have HC' := Lib.hid (HC.out.below hb)
        have HL' := Lib.hid (HL.out.below hb)
        have HX' := Lib.hid (HX.out.below hb)
        have HB' := Lib.hid (HB.out.trans (hb.mono HB.out.size))
        have HI' := Lib.hid (HI.out.below hb)
        have HJ' := Lib.hid (HJ.out.below hb)
        clear HR
        have HR := HR'
        clear HR'
        clear HC
        have HC := HC'
        clear HC'
        clear HL
        have HL := HL'
        clear HL'
        clear HX
        have HX := HX'
        clear HX'
        clear HB
        have HB := HB'
        clear HB'
        clear HI
        have HI := HI'
        clear HI'
        clear HJ
        have HJ := HJ'
        clear HJ'
        clear hb
        rw [HBV.out]
        simp only
        have r0 := cellOf HR.out 0 _ rfl
        have r1 := cellOf HR.out 1 _ rfl
        have r2 := cellOf HR.out 2 _ rfl
        have rl := lt_of_block HR.out
        go_wp2_with fail
        clear r0 r1 r2 rl
        have hcall := rbound_any c _ _ _ pl w5 HC.out HI.out
        rw [HTOL.out] at hcall
        refine hcall.mono ?_
        clear hcall
        rintro e w6 ⟨rfl, hb⟩
        have HR' := Lib.hid ((hb.block _ (lt_of_block HR.out)).trans HR.out)
        have HC' := Lib.hid (HC.out.below hb)
        have HL' := Lib.hid (HL.out.below hb)
        have HX' := Lib.hid (HX.out.below hb)
        have HB' := Lib.hid (HB.out.trans (hb.mono HB.out.size))
        have HI' := Lib.hid (HI.out.below hb)
        have HJ' := Lib.hid (HJ.out.below hb)
        clear HR
        have HR := HR'
        clear HR'
        clear HC
        have HC := HC'
        clear HC'
        clear HL
        have HL := HL'
        clear HL'
        clear HX
        have HX := HX'
        clear HX'
        clear HB
        have HB := HB'
        clear HB'
        clear HI
        have HI := HI'
        clear HI'
        clear HJ
        have HJ := HJ'
        clear HJ'
        clear hb
        rw [HBV.out]
        simp only
        have tbb : (bv != bv) = false := by simp
        have r0 := cellOf HR.out 0 _ rfl
        have r1 := cellOf HR.out 1 _ rfl
        have r2 := cellOf HR.out 2 _ rfl
        have rl := lt_of_block HR.out
        go_wp2_with fail
        clear r0 r1 r2 rl
        have hcall := rdearest_any c HV.out _ _ w6 HC.out
        rw [HTOL.out] at hcall
        refine hcall.mono ?_
        clear hcall
        rintro e w7 ⟨rfl, hb⟩
        have HR' := Lib.hid ((hb.block _ (lt_of_block HR.out)).trans HR.out)
        have HC' := Lib.hid (HC.out.below hb)
        have HL' := Lib.hid (HL.out.below hb)
        have HX' := Lib.hid (HX.out.below hb)
        have HB' := Lib.hid (HB.out.trans (hb.mono HB.out.size))
        have HI' := Lib.hid (HI.out.below hb)
        have HJ' := Lib.hid (HJ.out.below hb)
        clear HR
        have HR := HR'
        clear HR'
        clear HC
        have HC := HC'
        clear HC'
        clear HL
        have HL := HL'
        clear HL'
        clear HX
        have HX := HX'
        clear HX'
        clear HB
        have HB := HB'
        clear HB'
        clear HI
        have HI := HI'
        clear HI'
        clear HJ
        have HJ := HJ'
        clear HJ'
        clear hb
        generalize dearC c = dc at *
        have tle : ¬ bv ≤ dc := by omega
        have tle2 : decide (bv ≤ dc) = false := by simp; omega
        have own0 : w7.ownsRow w7.heap.size 3 1 (.slice none 0 0) 0 ((onK l 0).map (Value.int .i64)) := World.ownsRow_nil _ _ _ _
        have r0 := cellOf HR.out 0 _ rfl
        have r1 := cellOf HR.out 1 _ rfl
        have r2 := cellOf HR.out 2 _ rfl
        have rl := lt_of_block HR.out
        go_wp2_with fail
        clear r0 r1 r2 rl
        go_loopg [16, 17, 18] un (fun g nv v v18 wr => ∃ (k : Nat) (na : Option Addr) (nc : Nat), g + k = un ∧ v = .int .i64 k ∧ nv = .slice na k nc ∧ Hid (wr.ownsRow w7.heap.size 3 1 (.slice na k nc) k ((onK l k).map (Value.int .i64))) ∧ Hid (Below w7.heap.size w7 wr))
        case atStart => exact ⟨0, none, 0, by omega, rfl, rfl, own0, Below.refl _ _⟩
        case round =>
          clear own0
          obtain ⟨k, na, nc, hk, rfl, rfl, HO, HLP⟩ := hrel
          have BZ := HLP.out.size
          have HR' := Lib.hid ((HLP.out.block _ (lt_of_block HR.out)).trans HR.out)
          have HC' := Lib.hid (HC.out.below HLP.out)
          have HL' := Lib.hid (HL.out.below HLP.out)
          have HX' := Lib.hid (HX.out.below HLP.out)
          have HB' := Lib.hid (HB.out.trans (HLP.out.mono HB.out.size))
          have HI' := Lib.hid (HI.out.below HLP.out)
          have HJ' := Lib.hid (HJ.out.below HLP.out)
          clear HR
          have HR := HR'
          clear HR'
          clear HC
          have HC := HC'
          clear HC'
          clear HL
          have HL := HL'
          clear HL'
          clear HX
          have HX := HX'
          clear HX'
          clear HB
          have HB := HB'
          clear HB'
          clear HI
          have HI := HI'
          clear HI'
          clear HJ
          have HJ := HJ'
          clear HJ'
          by_cases hkm : k < un
          · skip
            have kI : (k : Int) < (un : Int) := by omega
            have hsn := onK_succ l k
            have htb := HTB.out k
            obtain ⟨y, hy⟩ : ∃ y, turnI l k = y := ⟨_, rfl⟩
            rw [hy] at hsn htb
            have HSN := Lib.hid hsn
            have s1 : IntKind.i64.wrap y = y := by rw [IntKind.wrap_i64] <;> omega
            have hba : Below wr.heap.size wr (wr.alloc (Obj.cells #[.int .i64 y] 3)) := (Below.refl _ _).alloc (Nat.le_refl _) _
            have hownA := HO.out.alloc (Obj.cells #[.int .i64 y] 3)
            have PB := Lib.hid (HLP.out.trans (hba.mono BZ))
            clear hsn hba
            by_cases hl0 : p = 0
            · skip
              have hy0 : y = 0 := by rw [← hy]; unfold turnI; rw [if_pos (List.length_eq_zero_iff.1 (by rw [← HP.out]; exact hl0))]
              have pI : ¬ (0 : Int) < (p : Int) := by omega
              clear hy hl0 htb
              subst hy0
              have r0 := cellOf HR.out 0 _ rfl
              have r1 := cellOf HR.out 1 _ rfl
              have r2 := cellOf HR.out 2 _ rfl
              have rl := lt_of_block HR.out
              go_wp2_with (at_builtin; go_must (refine wpl_app1 rfl _ _ rfl w7.heap.size k _ _ wr.heap.size 0 rfl rfl hownA (cellOf (heap_alloc_new wr (Obj.cells #[.int .i64 0] 3)) 0 _ rfl) (by omega) (by simp; omega) ?_))
              clear r0 r1 r2 rl
              intro v' w9 hown3 hgrow _
              have hB3 := Lib.hid (PB.out.grown hgrow PB.out.size (fun g hg => by have := (hownA.lt g hg).1; omega))
              obtain ⟨la', lc', rfl⟩ := own_slice hown3
              have HO3 : Hid (w9.ownsRow w7.heap.size 3 1 (.slice la' (k + 1) lc') (k + 1) ((onK l (k + 1)).map (Value.int .i64))) := by
                show World.ownsRow _ _ _ _ _ _ _
                rw [HSN.out, List.map_append]
                exact hown3
              clear hown3 hgrow hownA s1 HSN
              go_wp2
              go_roundg (gk - 1)
              case measure => omega
              case rel => exact ⟨k + 1, la', lc', by omega, by go_num, rfl, HO3, hB3⟩
            · skip
              have pI : (0 : Int) < (p : Int) := by omega
              have pn : ¬ p = 0 := hl0
              have pn1 : ¬ (p : Int) = -1 := by omega
              have pz : ((p : Int) == 0) = false := by rw [beq_eq_false_iff_ne]; omega
              have hne : l ≠ [] := fun e => hl0 (by rw [HP.out, e]; rfl)
              obtain ⟨_, a', cap', e, h2⟩ := HL.out
              injection e with e1 e2 e3
              obtain ⟨lb, lo, e4, hcl⟩ := h2 hne
              have hkl : k % l.length < l.length := Nat.mod_lt _ (List.length_pos_iff.2 hne)
              have e0 := (hcl _ hkl).1
              have hy2 : l.getD (k % l.length) 0 = y := by rw [← hy]; unfold turnI; rw [if_neg hne]
              rw [hy2] at e0
              subst e4
              subst e1
              rw [← HP.out] at e0 hkl
              have em : (k : Int).tmod (p : Int) = ((k % p : Nat) : Int) := tmod_nat k p
              obtain ⟨kp, hkp⟩ : ∃ z, k % p = z := ⟨_, rfl⟩
              rw [hkp] at e0 hkl em
              have kpI : (kp : Int) < (p : Int) := by omega
              clear hy hy2 hcl h2 hne e2 e3 hkp
              have r0 := cellOf HR.out 0 _ rfl
              have r1 := cellOf HR.out 1 _ rfl
              have r2 := cellOf HR.out 2 _ rfl
              have rl := lt_of_block HR.out
              go_wp2_with (at_builtin; go_must (refine wpl_app1 rfl _ _ rfl w7.heap.size k _ _ wr.heap.size y rfl rfl hownA (cellOf (heap_alloc_new wr (Obj.cells #[.int .i64 y] 3)) 0 _ rfl) (by omega) (by simp; omega) ?_))
              clear r0 r1 r2 rl
              clear e0 em
              intro v' w9 hown3 hgrow _
              have hB3 := Lib.hid (PB.out.grown hgrow PB.out.size (fun g hg => by have := (hownA.lt g hg).1; omega))
              obtain ⟨la', lc', rfl⟩ := own_slice hown3
              have HO3 : Hid (w9.ownsRow w7.heap.size 3 1 (.slice la' (k + 1) lc') (k + 1) ((onK l (k + 1)).map (Value.int .i64))) := by
                show World.ownsRow _ _ _ _ _ _ _
                rw [HSN.out, List.map_append]
                exact hown3
              clear hown3 hgrow hownA s1 HSN
              go_wp2
              go_roundg (gk - 1)
              case measure => omega
              case rel => exact ⟨k + 1, la', lc', by omega, by go_num, rfl, HO3, hB3⟩
          · skip
            have kI : ¬ (k : Int) < (un : Int) := by omega
            obtain rfl : k = un := by omega
            have hio := intsAt_own (l := onK l k) (by rw [onK_length]; exact HO.out) (by rw [onK_length]; omega)
            have HOI : Hid (IntsAt wr (.slice na k nc) (onK l c.eds.length)) := by
              show IntsAt _ _ _
              rw [← HM.out]
              exact hio
            clear hkm hk hio HO
            have r0 := cellOf HR.out 0 _ rfl
            have r1 := cellOf HR.out 1 _ rfl
            have r2 := cellOf HR.out 2 _ rfl
            have rl := lt_of_block HR.out
            go_wp2_with fail
            clear r0 r1 r2 rl
            have hcall := boundT_any c _ _ _ (onK l c.eds.length) wr HC.out HOI.out
            rw [HTOL.out] at hcall
            refine hcall.mono ?_
            clear hcall
            rintro e x1 ⟨rfl, hb⟩
            have HR' := Lib.hid ((hb.block _ (lt_of_block HR.out)).trans HR.out)
            have HC' := Lib.hid (HC.out.below hb)
            have HL' := Lib.hid (HL.out.below hb)
            have HX' := Lib.hid (HX.out.below hb)
            have HB' := Lib.hid (HB.out.trans (hb.mono HB.out.size))
            have HI' := Lib.hid (HI.out.below hb)
            have HJ' := Lib.hid (HJ.out.below hb)
            have HOI' := Lib.hid (HOI.out.below hb)
            clear HR
            have HR := HR'
            clear HR'
            clear HC
            have HC := HC'
            clear HC'
            clear HL
            have HL := HL'
            clear HL'
            clear HX
            have HX := HX'
            clear HX'
            clear HB
            have HB := HB'
            clear HB'
            clear HI
            have HI := HI'
            clear HI'
            clear HJ
            have HJ := HJ'
            clear HJ'
            clear HOI
            have HOI := HOI'
            clear HOI'
            clear hb
            rw [HOB.out]
            simp only
            have r0 := cellOf HR.out 0 _ rfl
            have r1 := cellOf HR.out 1 _ rfl
            have r2 := cellOf HR.out 2 _ rfl
            have rl := lt_of_block HR.out
            go_wp2_with fail
            clear r0 r1 r2 rl
            have hcall := lany_any c HV.out _ _ _ x x1 HC.out HX.out
            rw [HTOL.out] at hcall
            refine hcall.mono ?_
            clear hcall
            rintro e x2 ⟨ov, rfl, hO, hb⟩
            have HR' := Lib.hid ((hb.block _ (lt_of_block HR.out)).trans HR.out)
            have HC' := Lib.hid (HC.out.below hb)
            have HL' := Lib.hid (HL.out.below hb)
            have HX' := Lib.hid (HX.out.below hb)
            have HB' := Lib.hid (HB.out.trans (hb.mono HB.out.size))
            have HI' := Lib.hid (HI.out.below hb)
            have HJ' := Lib.hid (HJ.out.below hb)
            have HOI' := Lib.hid (HOI.out.below hb)
            clear HR
            have HR := HR'
            clear HR'
            clear HC
            have HC := HC'
            clear HC'
            clear HL
            have HL := HL'
            clear HL'
            clear HX
            have HX := HX'
            clear HX'
            clear HB
            have HB := HB'
            clear HB'
            clear HI
            have HI := HI'
            clear HI'
            clear HJ
            have HJ := HJ'
            clear HJ'
            clear HOI
            have HOI := HOI'
            clear HOI'
            clear hb
            have HN := Lib.hid hO
            clear hO
            obtain ⟨oa, on, oc, rfl⟩ : ∃ a n cc, ov = .slice a n cc := by obtain ⟨_, a, cap, h, _⟩ := HN.out; exact ⟨_, _, _, h⟩
            have r0 := cellOf HR.out 0 _ rfl
            have r1 := cellOf HR.out 1 _ rfl
            have r2 := cellOf HR.out 2 _ rfl
            have rl := lt_of_block HR.out
            go_wp2_with fail
            clear r0 r1 r2 rl
            have hcall := lagree_any c _ _ _ (anyC c x) x2 HC.out HN.out
            rw [HTOL.out] at hcall
            refine hcall.mono ?_
            clear hcall
            rintro e x3 ⟨rfl, hb⟩
            have HR' := Lib.hid ((hb.block _ (lt_of_block HR.out)).trans HR.out)
            have HC' := Lib.hid (HC.out.below hb)
            have HL' := Lib.hid (HL.out.below hb)
            have HX' := Lib.hid (HX.out.below hb)
            have HB' := Lib.hid (HB.out.trans (hb.mono HB.out.size))
            have HI' := Lib.hid (HI.out.below hb)
            have HJ' := Lib.hid (HJ.out.below hb)
            have HOI' := Lib.hid (HOI.out.below hb)
            have HN' := Lib.hid (HN.out.below hb)
            clear HR
            have HR := HR'
            clear HR'
            clear HC
            have HC := HC'
            clear HC'
            clear HL
            have HL := HL'
            clear HL'
            clear HX
            have HX := HX'
            clear HX'
            clear HB
            have HB := HB'
            clear HB'
            clear HI
            have HI := HI'
            clear HI'
            clear HJ
            have HJ := HJ'
            clear HJ'
            clear HOI
            have HOI := HOI'
            clear HOI'
            clear HN
            have HN := HN'
            clear HN'
            clear hb
            rw [HAN.out]
            have r0 := cellOf HR.out 0 _ rfl
            have r1 := cellOf HR.out 1 _ rfl
            have r2 := cellOf HR.out 2 _ rfl
            have rl := lt_of_block HR.out
            go_wp2_with fail
            clear r0 r1 r2 rl
            refine (awake_any x3).mono ?_
            rintro e wz ⟨rfl, hb⟩
            have HBF := Lib.hid (HB.out.trans (hb.mono HB.out.size))
            clear hb
            go_wp2_with fail
            go_ret
            exact ⟨rfl, HBF.out⟩
      · skip
        subst hs
        subst hcb
        have HAN : Hid (agreeB c (anyC c x) = true → ob ≤ costF (sysA c) (fun i => (anyC c x).getD i 0)) := fun hq => HOC.out _ ((agree_iff c H0.out _).1 hq).2
        have HOL : Hid (ob ≤ cost) := by
          show _ ≤ _
          rcases least_spec c H0.out with ⟨h9, _⟩ | ⟨_, h2⟩
          · rw [HLE.out] at h9; simp at h9
          · have h3 := HOC.out _ h2.ag; have h4 := h2.cost; rw [HLE.out] at h3 h4; simp only at h3 h4; omega
        have HCA : Hid (costK c.shs (anyC c x) (anyC c x).length = costF (sysA c) (fun i => (anyC c x).getD i 0)) := by show _ = _; rw [anyC_length]; exact costK_eq c (wsC c) _
        have r0 := cellOf HR.out 0 _ rfl
        have r1 := cellOf HR.out 1 _ rfl
        have r2 := cellOf HR.out 2 _ rfl
        have rl := lt_of_block HR.out
        go_wp2_with fail
        clear r0 r1 r2 rl
        have hcall := boundT_any c _ _ _ pl w4 HC.out HI.out
        rw [HTOL.out] at hcall
        refine hcall.mono ?_
        clear hcall
        rintro e w5 ⟨rfl, hb⟩
        have HR' := Lib.hid ((hb.block _ (lt_of_block HR.out)).trans HR.out)
        have HC' := Lib.hid (HC.out.below hb)
        have HL' := Lib.hid (HL.out.below hb)
        have HX' := Lib.hid (HX.out.below hb)
        have HB' := Lib.hid (HB.out.trans (hb.mono HB.out.size))
        have HI' := Lib.hid (HI.out.below hb)
        have HJ' := Lib.hid (HJ.out.below hb)
        clear HR
        have HR := HR'
        clear HR'
        clear HC
        have HC := HC'
        clear HC'
        clear HL
        have HL := HL'
        clear HL'
        clear HX
        have HX := HX'
        clear HX'
        clear HB
        have HB := HB'
        clear HB'
        clear HI
        have HI := HI'
        clear HI'
        clear HJ
        have HJ := HJ'
        clear HJ'
        clear hb
        rw [HBV.out]
        simp only
        have r0 := cellOf HR.out 0 _ rfl
        have r1 := cellOf HR.out 1 _ rfl
        have r2 := cellOf HR.out 2 _ rfl
        have rl := lt_of_block HR.out
        go_wp2_with fail
        clear r0 r1 r2 rl
        have hcall := rbound_any c _ _ _ pl w5 HC.out HI.out
        rw [HTOL.out] at hcall
        refine hcall.mono ?_
        clear hcall
        rintro e w6 ⟨rfl, hb⟩
        have HR' := Lib.hid ((hb.block _ (lt_of_block HR.out)).trans HR.out)
        have HC' := Lib.hid (HC.out.below hb)
        have HL' := Lib.hid (HL.out.below hb)
        have HX' := Lib.hid (HX.out.below hb)
        have HB' := Lib.hid (HB.out.trans (hb.mono HB.out.size))
        have HI' := Lib.hid (HI.out.below hb)
        have HJ' := Lib.hid (HJ.out.below hb)
        clear HR
        have HR := HR'
        clear HR'
        clear HC
        have HC := HC'
        clear HC'
        clear HL
        have HL := HL'
        clear HL'
        clear HX
        have HX := HX'
        clear HX'
        clear HB
        have HB := HB'
        clear HB'
        clear HI
        have HI := HI'
        clear HI'
        clear HJ
        have HJ := HJ'
        clear HJ'
        clear hb
        rw [HBV.out]
        simp only
        have tbb : (cost != cost) = false := by simp
        have own0 : w6.ownsRow w6.heap.size 3 1 (.slice none 0 0) 0 ((onK l 0).map (Value.int .i64)) := World.ownsRow_nil _ _ _ _
        have r0 := cellOf HR.out 0 _ rfl
        have r1 := cellOf HR.out 1 _ rfl
        have r2 := cellOf HR.out 2 _ rfl
        have rl := lt_of_block HR.out
        go_wp2_with fail
        clear r0 r1 r2 rl
        go_loopg [16, 17, 18] un (fun g nv v v18 wr => ∃ (k : Nat) (na : Option Addr) (nc : Nat), g + k = un ∧ v = .int .i64 k ∧ nv = .slice na k nc ∧ Hid (wr.ownsRow w6.heap.size 3 1 (.slice na k nc) k ((onK l k).map (Value.int .i64))) ∧ Hid (Below w6.heap.size w6 wr))
        case atStart => exact ⟨0, none, 0, by omega, rfl, rfl, own0, Below.refl _ _⟩
        case round =>
          clear own0
          obtain ⟨k, na, nc, hk, rfl, rfl, HO, HLP⟩ := hrel
          have BZ := HLP.out.size
          have HR' := Lib.hid ((HLP.out.block _ (lt_of_block HR.out)).trans HR.out)
          have HC' := Lib.hid (HC.out.below HLP.out)
          have HL' := Lib.hid (HL.out.below HLP.out)
          have HX' := Lib.hid (HX.out.below HLP.out)
          have HB' := Lib.hid (HB.out.trans (HLP.out.mono HB.out.size))
          have HI' := Lib.hid (HI.out.below HLP.out)
          have HJ' := Lib.hid (HJ.out.below HLP.out)
          clear HR
          have HR := HR'
          clear HR'
          clear HC
          have HC := HC'
          clear HC'
          clear HL
          have HL := HL'
          clear HL'
          clear HX
          have HX := HX'
          clear HX'
          clear HB
          have HB := HB'
          clear HB'
          clear HI
          have HI := HI'
          clear HI'
          clear HJ
          have HJ := HJ'
          clear HJ'
          by_cases hkm : k < un
          · skip
            have kI : (k : Int) < (un : Int) := by omega
            have hsn := onK_succ l k
            have htb := HTB.out k
            obtain ⟨y, hy⟩ : ∃ y, turnI l k = y := ⟨_, rfl⟩
            rw [hy] at hsn htb
            have HSN := Lib.hid hsn
            have s1 : IntKind.i64.wrap y = y := by rw [IntKind.wrap_i64] <;> omega
            have hba : Below wr.heap.size wr (wr.alloc (Obj.cells #[.int .i64 y] 3)) := (Below.refl _ _).alloc (Nat.le_refl _) _
            have hownA := HO.out.alloc (Obj.cells #[.int .i64 y] 3)
            have PB := Lib.hid (HLP.out.trans (hba.mono BZ))
            clear hsn hba
            by_cases hl0 : p = 0
            · skip
              have hy0 : y = 0 := by rw [← hy]; unfold turnI; rw [if_pos (List.length_eq_zero_iff.1 (by rw [← HP.out]; exact hl0))]
              have pI : ¬ (0 : Int) < (p : Int) := by omega
              clear hy hl0 htb
              subst hy0
              have r0 := cellOf HR.out 0 _ rfl
              have r1 := cellOf HR.out 1 _ rfl
              have r2 := cellOf HR.out 2 _ rfl
              have rl := lt_of_block HR.out
              go_wp2_with (at_builtin; go_must (refine wpl_app1 rfl _ _ rfl w6.heap.size k _ _ wr.heap.size 0 rfl rfl hownA (cellOf (heap_alloc_new wr (Obj.cells #[.int .i64 0] 3)) 0 _ rfl) (by omega) (by simp; omega) ?_))
              clear r0 r1 r2 rl
              intro v' w9 hown3 hgrow _
              have hB3 := Lib.hid (PB.out.grown hgrow PB.out.size (fun g hg => by have := (hownA.lt g hg).1; omega))
              obtain ⟨la', lc', rfl⟩ := own_slice hown3
              have HO3 : Hid (w9.ownsRow w6.heap.size 3 1 (.slice la' (k + 1) lc') (k + 1) ((onK l (k + 1)).map (Value.int .i64))) := by
                show World.ownsRow _ _ _ _ _ _ _
                rw [HSN.out, List.map_append]
                exact hown3
              clear hown3 hgrow hownA s1 HSN
              go_wp2
              go_roundg (gk - 1)
              case measure => omega
              case rel => exact ⟨k + 1, la', lc', by omega, by go_num, rfl, HO3, hB3⟩
            · skip
              have pI : (0 : Int) < (p : Int) := by omega
              have pn : ¬ p = 0 := hl0
              have pn1 : ¬ (p : Int) = -1 := by omega
              have pz : ((p : Int) == 0) = false := by rw [beq_eq_false_iff_ne]; omega
              have hne : l ≠ [] := fun e => hl0 (by rw [HP.out, e]; rfl)
              obtain ⟨_, a', cap', e, h2⟩ := HL.out
              injection e with e1 e2 e3
              obtain ⟨lb, lo, e4, hcl⟩ := h2 hne
              have hkl : k % l.length < l.length := Nat.mod_lt _ (List.length_pos_iff.2 hne)
              have e0 := (hcl _ hkl).1
              have hy2 : l.getD (k % l.length) 0 = y := by rw [← hy]; unfold turnI; rw [if_neg hne]
              rw [hy2] at e0
              subst e4
              subst e1
              rw [← HP.out] at e0 hkl
              have em : (k : Int).tmod (p : Int) = ((k % p : Nat) : Int) := tmod_nat k p
              obtain ⟨kp, hkp⟩ : ∃ z, k % p = z := ⟨_, rfl⟩
              rw [hkp] at e0 hkl em
              have kpI : (kp : Int) < (p : Int) := by omega
              clear hy hy2 hcl h2 hne e2 e3 hkp
              have r0 := cellOf HR.out 0 _ rfl
              have r1 := cellOf HR.out 1 _ rfl
              have r2 := cellOf HR.out 2 _ rfl
              have rl := lt_of_block HR.out
              go_wp2_with (at_builtin; go_must (refine wpl_app1 rfl _ _ rfl w6.heap.size k _ _ wr.heap.size y rfl rfl hownA (cellOf (heap_alloc_new wr (Obj.cells #[.int .i64 y] 3)) 0 _ rfl) (by omega) (by simp; omega) ?_))
              clear r0 r1 r2 rl
              clear e0 em
              intro v' w9 hown3 hgrow _
              have hB3 := Lib.hid (PB.out.grown hgrow PB.out.size (fun g hg => by have := (hownA.lt g hg).1; omega))
              obtain ⟨la', lc', rfl⟩ := own_slice hown3
              have HO3 : Hid (w9.ownsRow w6.heap.size 3 1 (.slice la' (k + 1) lc') (k + 1) ((onK l (k + 1)).map (Value.int .i64))) := by
                show World.ownsRow _ _ _ _ _ _ _
                rw [HSN.out, List.map_append]
                exact hown3
              clear hown3 hgrow hownA s1 HSN
              go_wp2
              go_roundg (gk - 1)
              case measure => omega
              case rel => exact ⟨k + 1, la', lc', by omega, by go_num, rfl, HO3, hB3⟩
          · skip
            have kI : ¬ (k : Int) < (un : Int) := by omega
            obtain rfl : k = un := by omega
            have hio := intsAt_own (l := onK l k) (by rw [onK_length]; exact HO.out) (by rw [onK_length]; omega)
            have HOI : Hid (IntsAt wr (.slice na k nc) (onK l c.eds.length)) := by
              show IntsAt _ _ _
              rw [← HM.out]
              exact hio
            clear hkm hk hio HO
            have r0 := cellOf HR.out 0 _ rfl
            have r1 := cellOf HR.out 1 _ rfl
            have r2 := cellOf HR.out 2 _ rfl
            have rl := lt_of_block HR.out
            go_wp2_with fail
            clear r0 r1 r2 rl
            have hcall := boundT_any c _ _ _ (onK l c.eds.length) wr HC.out HOI.out
            rw [HTOL.out] at hcall
            refine hcall.mono ?_
            clear hcall
            rintro e x1 ⟨rfl, hb⟩
            have HR' := Lib.hid ((hb.block _ (lt_of_block HR.out)).trans HR.out)
            have HC' := Lib.hid (HC.out.below hb)
            have HL' := Lib.hid (HL.out.below hb)
            have HX' := Lib.hid (HX.out.below hb)
            have HB' := Lib.hid (HB.out.trans (hb.mono HB.out.size))
            have HI' := Lib.hid (HI.out.below hb)
            have HJ' := Lib.hid (HJ.out.below hb)
            have HOI' := Lib.hid (HOI.out.below hb)
            clear HR
            have HR := HR'
            clear HR'
            clear HC
            have HC := HC'
            clear HC'
            clear HL
            have HL := HL'
            clear HL'
            clear HX
            have HX := HX'
            clear HX'
            clear HB
            have HB := HB'
            clear HB'
            clear HI
            have HI := HI'
            clear HI'
            clear HJ
            have HJ := HJ'
            clear HJ'
            clear HOI
            have HOI := HOI'
            clear HOI'
            clear hb
            rw [HOB.out]
            simp only
            have r0 := cellOf HR.out 0 _ rfl
            have r1 := cellOf HR.out 1 _ rfl
            have r2 := cellOf HR.out 2 _ rfl
            have rl := lt_of_block HR.out
            go_wp2_with fail
            clear r0 r1 r2 rl
            have hcall := lany_any c HV.out _ _ _ x x1 HC.out HX.out
            rw [HTOL.out] at hcall
            refine hcall.mono ?_
            clear hcall
            rintro e x2 ⟨ov, rfl, hO, hb⟩
            have HR' := Lib.hid ((hb.block _ (lt_of_block HR.out)).trans HR.out)
            have HC' := Lib.hid (HC.out.below hb)
            have HL' := Lib.hid (HL.out.below hb)
            have HX' := Lib.hid (HX.out.below hb)
            have HB' := Lib.hid (HB.out.trans (hb.mono HB.out.size))
            have HI' := Lib.hid (HI.out.below hb)
            have HJ' := Lib.hid (HJ.out.below hb)
            have HOI' := Lib.hid (HOI.out.below hb)
            clear HR
            have HR := HR'
            clear HR'
            clear HC
            have HC := HC'
            clear HC'
            clear HL
            have HL := HL'
            clear HL'
            clear HX
            have HX := HX'
            clear HX'
            clear HB
            have HB := HB'
            clear HB'
            clear HI
            have HI := HI'
            clear HI'
            clear HJ
            have HJ := HJ'
            clear HJ'
            clear HOI
            have HOI := HOI'
            clear HOI'
            clear hb
            have HN := Lib.hid hO
            clear hO
            obtain ⟨oa, on, oc, rfl⟩ : ∃ a n cc, ov = .slice a n cc := by obtain ⟨_, a, cap, h, _⟩ := HN.out; exact ⟨_, _, _, h⟩
            have r0 := cellOf HR.out 0 _ rfl
            have r1 := cellOf HR.out 1 _ rfl
            have r2 := cellOf HR.out 2 _ rfl
            have rl := lt_of_block HR.out
            go_wp2_with fail
            clear r0 r1 r2 rl
            have hcall := lagree_any c _ _ _ (anyC c x) x2 HC.out HN.out
            rw [HTOL.out] at hcall
            refine hcall.mono ?_
            clear hcall
            rintro e x3 ⟨rfl, hb⟩
            have HR' := Lib.hid ((hb.block _ (lt_of_block HR.out)).trans HR.out)
            have HC' := Lib.hid (HC.out.below hb)
            have HL' := Lib.hid (HL.out.below hb)
            have HX' := Lib.hid (HX.out.below hb)
            have HB' := Lib.hid (HB.out.trans (hb.mono HB.out.size))
            have HI' := Lib.hid (HI.out.below hb)
            have HJ' := Lib.hid (HJ.out.below hb)
            have HOI' := Lib.hid (HOI.out.below hb)
            have HN' := Lib.hid (HN.out.below hb)
            clear HR
            have HR := HR'
            clear HR'
            clear HC
            have HC := HC'
            clear HC'
            clear HL
            have HL := HL'
            clear HL'
            clear HX
            have HX := HX'
            clear HX'
            clear HB
            have HB := HB'
            clear HB'
            clear HI
            have HI := HI'
            clear HI'
            clear HJ
            have HJ := HJ'
            clear HJ'
            clear HOI
            have HOI := HOI'
            clear HOI'
            clear HN
            have HN := HN'
            clear HN'
            clear hb
            obtain ⟨ab, hab⟩ : ∃ b, agreeB c (anyC c x) = b := ⟨_, rfl⟩
            rw [hab] at HAN ⊢
            clear hab
            have hol := HOL.out
            have tol1 : decide (ob ≤ cost) = true := by simp; omega
            cases ab
            · skip
              have r0 := cellOf HR.out 0 _ rfl
              have r1 := cellOf HR.out 1 _ rfl
              have r2 := cellOf HR.out 2 _ rfl
              have rl := lt_of_block HR.out
              go_wp2_with fail
              clear r0 r1 r2 rl
              refine (awake_any x3).mono ?_
              rintro e wz ⟨rfl, hb⟩
              have HBF := Lib.hid (HB.out.trans (hb.mono HB.out.size))
              clear hb
              go_wp2_with fail
              go_ret
              exact ⟨rfl, HBF.out⟩
            · skip
              have r0 := cellOf HR.out 0 _ rfl
              have r1 := cellOf HR.out 1 _ rfl
              have r2 := cellOf HR.out 2 _ rfl
              have rl := lt_of_block HR.out
              go_wp2_with fail
              clear r0 r1 r2 rl
              have hcall := rcosts_any tol c.shs _ (.slice ea k ec) _ (anyC c x) x3 HC.out.shs HV.out.sh HN.out (by rw [anyC_length]; exact Nat.le_refl _) HV.out.n5 (any_sm HV.out x)
              refine hcall.mono ?_
              clear hcall
              rintro e x4 ⟨rfl, hb⟩
              have HR' := Lib.hid ((hb.block _ (lt_of_block HR.out)).trans HR.out)
              have HC' := Lib.hid (HC.out.below hb)
              have HL' := Lib.hid (HL.out.below hb)
              have HX' := Lib.hid (HX.out.below hb)
              have HB' := Lib.hid (HB.out.trans (hb.mono HB.out.size))
              have HI' := Lib.hid (HI.out.below hb)
              have HJ' := Lib.hid (HJ.out.below hb)
              have HOI' := Lib.hid (HOI.out.below hb)
              have HN' := Lib.hid (HN.out.below hb)
              clear HR
              have HR := HR'
              clear HR'
              clear HC
              have HC := HC'
              clear HC'
              clear HL
              have HL := HL'
              clear HL'
              clear HX
              have HX := HX'
              clear HX'
              clear HB
              have HB := HB'
              clear HB'
              clear HI
              have HI := HI'
              clear HI'
              clear HJ
              have HJ := HJ'
              clear HJ'
              clear HOI
              have HOI := HOI'
              clear HOI'
              clear HN
              have HN := HN'
              clear HN'
              clear hb
              rw [HCA.out]
              have hge := HAN.out (by simp)
              generalize costF (sysA c) (fun i => (anyC c x).getD i 0) = ca at *
              have tge : decide (ob ≤ ca) = true := by simp; omega
              have r0 := cellOf HR.out 0 _ rfl
              have r1 := cellOf HR.out 1 _ rfl
              have r2 := cellOf HR.out 2 _ rfl
              have rl := lt_of_block HR.out
              go_wp2_with fail
              clear r0 r1 r2 rl
              refine (awake_any x4).mono ?_
              rintro e wz ⟨rfl, hb⟩
              have HBF := Lib.hid (HB.out.trans (hb.mono HB.out.size))
              clear hb
              go_wp2_with fail
              go_ret
              exact ⟨rfl, HBF.out⟩
    · skip
      have hp1 : proofE c = ([], 9) := by unfold proofE; rw [if_neg (by simp [H0.out]), if_pos ht]
      have hp2 := least_torn c H0.out ht
      rw [HPE.out] at hp1
      rw [HLE.out] at hp2
      simp only [Prod.mk.injEq] at hp1 hp2
      obtain ⟨rfl, rfl⟩ := hp1
      obtain ⟨rfl, rfl, rfl⟩ := hp2
      have hv0 : vn = 0 := HVN.out
      have hu0 : un = 0 := HUN.out
      subst hv0 hu0
      clear ht
      have r0 := cellOf HR.out 0 _ rfl
      have r1 := cellOf HR.out 1 _ rfl
      have r2 := cellOf HR.out 2 _ rfl
      have rl := lt_of_block HR.out
      go_wp2_with fail
      clear r0 r1 r2 rl
      refine (awake_any w4).mono ?_
      rintro e wz ⟨rfl, hb⟩
      have HBF := Lib.hid (HB.out.trans (hb.mono HB.out.size))
      clear hb
      go_wp2_with fail
      go_ret
      exact ⟨rfl, HBF.out⟩
  · skip
    have hp1 : proofE c = ([], errC c) := by unfold proofE; rw [if_pos h0]
    have hp2 := least_err h0
    rw [HPE.out] at hp1
    rw [HLE.out] at hp2
    simp only [Prod.mk.injEq] at hp1 hp2
    obtain ⟨rfl, rfl⟩ := hp1
    obtain ⟨rfl, rfl, rfl⟩ := hp2
    rw [show decide (errC c = 0) = false by simp [h0]]
    obtain ⟨er, her⟩ : ∃ x, errC c = x := ⟨_, rfl⟩
    rw [her] at h0 ⊢
    have tz : (er != 0) = true := by simp [h0]
    clear her h0
    have hv0 : vn = 0 := HVN.out
    have hu0 : un = 0 := HUN.out
    subst hv0 hu0
    have r0 := cellOf HR.out 0 _ rfl
    have r1 := cellOf HR.out 1 _ rfl
    have r2 := cellOf HR.out 2 _ rfl
    have rl := lt_of_block HR.out
    go_wp2_with fail
    clear r0 r1 r2 rl
    refine (awake_any w3).mono ?_
    rintro e wz ⟨rfl, hb⟩
    have HBF := Lib.hid (HB.out.trans (hb.mono HB.out.size))
    clear hb
    go_wp2_with fail
    go_ret
    exact ⟨rfl, HBF.out⟩
end Go.Proofs.Ythhlakodnpopmaa
namespace Go.Proofs.Ythhlakodnpopmaa
namespace ClaimEdgeProof
open Go.ChangeShapes Go.WideShapes Go.ChangeAt Go.RowKit

theorem own : ownKnob Try.prog.godebug = none := by kernel_rfl
theorem laidOutP : laidOutB Try.prog = true := by kernel_rfl

set_option maxRecDepth 100000 in
theorem contract (H : Type) (enc : TypeId × Value → H) (W : World) (base : Nat) (args : Array Value) (ds gs : List (DataW H)) (before : List MemPlace)
    (hval : ∀ (j : Nat) t v, Try.f8.params[j]? = some t → args[j]? = some v → Value.okWide Try.prog W .any base t v)
    (hW : DataW.Whole enc Try.prog Try.f8.params.toList Rows.edgeProofSpec.vars false W args.toList ds gs before)
    (hsz : (DataW.weightsEach Try.prog (Try.f8.params.toList ++ Rows.edgeProofSpec.plain.varTypes Try.prog) (ds ++ gs)).all (· ≤ reachBytes) = true) :
    Calls Try.prog 8 args W fun e W' => ∃ v, e = .returned v ∧ Rows.edgeProofSpec.post enc Try.prog Try.f8 false true false false W args v W' := by
  have hW' := hW
  obtain ⟨p, q, hA0, hV, rfl, hfz, hnd⟩ := hW
  have hA : DataW.TrodAll enc Try.prog W 0 (fun _ => true) true Try.f8.params.toList args.toList ds p := hA0
  rw [Try.params8] at hA hval hsz
  obtain ⟨v0, vs0, d0, ds0, p0, q0, hargs, rfl, rfl, h0, r0⟩ := trodAll_cons hA
  obtain ⟨v1, vs1, d1, ds1, p1, q1, rfl, rfl, rfl, h1, r1⟩ := trodAll_cons r0
  obtain ⟨v2, vs2, d2, ds2, p2, q2, rfl, rfl, rfl, h2, r2⟩ := trodAll_cons r1
  obtain ⟨rfl, rfl, rfl⟩ := trodAll_nil r2
  obtain rfl : args = #[v0, v1, v2] := by cases args; simp_all
  obtain ⟨rfl, rfl⟩ := trodVars_none hV
  have w0 : ∀ x ∈ d0.weights Try.prog 25, x ≤ reachBytes := fun x hx => of_decide_eq_true (List.all_eq_true.1 hsz _ (DataW.weights_mem_each (j := 0) (t := 25) (d := d0) rfl rfl x hx))
  obtain ⟨c0, sv0, ev0, rfl, hC0⟩ := open_case (hval 0 25 v0 rfl rfl) h0 w0
  have w1 : ∀ x ∈ d1.weights Try.prog 52, x ≤ reachBytes := fun x hx => of_decide_eq_true (List.all_eq_true.1 hsz _ (DataW.weights_mem_each (j := 1) (t := 52) (d := d1) rfl rfl x hx))
  obtain ⟨l1, hL1⟩ := open_i16s (hval 1 52 v1 rfl rfl) h1 w1
  have w2 : ∀ x ∈ d2.weights Try.prog 47, x ≤ reachBytes := fun x hx => of_decide_eq_true (List.all_eq_true.1 hsz _ (DataW.weights_mem_each (j := 2) (t := 47) (d := d2) rfl rfl x hx))
  obtain ⟨l2, hL2⟩ := open_u8s (hval 2 47 v2 rfl rfl) h2 w2
  clear hA0
  refine (lproof_any c0 sv0 ev0 v1 v2 l1 l2 W hC0 hL1 hL2).mono fun e W' ⟨he, hb⟩ => ?_
  subst he
  exact ⟨_, rfl, post_law laidOutP (by rw [Try.params8]; intro t ht; simp at ht; rcases ht with rfl | rfl | rfl <;> exact ⟨by kernel_rfl, of_decide_eq_true (by kernel_rfl)⟩) rfl rfl Try.underlying4 rfl hW' hb⟩

set_option maxRecDepth 100000 in
theorem lifted (os : Os) (started : os.Started) (H : Type) (enc : TypeId × Value → H) :
    ReturnsInHanded {} Try.checked os 8 .any (Rows.edgeProofSpec.pre6 enc Try.prog Try.f8 Rows.edgeProofRow.domain false) (Rows.edgeProofSpec.post enc Try.prog Try.f8 false true false false) := by
  refine returnsInHanded_of_change_sized (C := Try.checked) own started (by kernel_rfl) Try.func8
    (ChangeSpec.witness6 (enc := enc) (C := Try.checked) false ⟨#[], #[.agg #[.int .i64 0, .slice none 0 0, .slice none 0 0], .slice none 0 0, .slice none 0 0], []⟩ 8 (by kernel_rfl) (by kernel_rfl) (by kernel_rfl) (by kernel_rfl)) ?_
  intro W base args ds gs before hval hW _ hsz _
  exact contract H enc W base args ds gs before hval hW hsz

theorem over : Rows.EdgeProofSaid :=
  OpenClaim.holds_of_wide 8 Try.f8 rfl rfl rfl rfl rfl rfl rfl ⟨rfl, rfl, rfl, rfl, rfl⟩ rfl rfl rfl rfl rfl (by kernel_rfl) Try.func8 (by kernel_rfl)
    (of_decide_eq_true (by kernel_rfl)) (by unfold Func.isWrapper; first | (rw [if_pos (by decide +kernel)]; kernel_rfl) | (rw [if_neg (by decide +kernel)]; exact ⟨rfl, rfl⟩))
    (fun os started H enc _ => lifted os started H enc)
end ClaimEdgeProof

theorem edgeProof_holds : Rows.EdgeProofSaid := ClaimEdgeProof.over
end Go.Proofs.Ythhlakodnpopmaa
