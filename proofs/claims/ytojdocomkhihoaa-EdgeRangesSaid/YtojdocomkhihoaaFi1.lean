/- Package edge: pushes as cells; what bound counts. -/
import Derived.Test.YtojdocomkhihoaaFb1
import Derived.Test.YtojdocomkhihoaaFh1
set_option linter.unusedSimpArgs false
set_option linter.unusedVariables false
namespace Go.Proofs.Ytojdocomkhihoaa
open Go Go.RowKit Ed

def PuBlk (w : World) (b : Nat) (x : List Int) : Prop := w.heap[b]? = some (.cells (chC x) 109 (0, 0))
theorem PuBlk.lt {w : World} {b : Nat} {x : List Int} (h : PuBlk w b x) : b < w.heap.size := lt_of_block h
theorem PuBlk.below {w w' : World} {b n : Nat} {x : List Int} (h : PuBlk w b x) (hb : Below n w w') (hn : b < n) : PuBlk w' b x := (hb.block b hn).trans h
theorem PuBlk.cell {w : World} {b : Nat} {x : List Int} (h : PuBlk w b x) (i : Nat) (hi : i < x.length) : w.cell? ⟨b, i, none⟩ = some (.int .i64 (x.getD i 0)) := cellOf h i _ (ch_get x i hi)
theorem PuBlk.set {w : World} {b : Nat} {x : List Int} (h : PuBlk w b x) (i : Nat) (y : Int) : PuBlk (w.setCell ⟨b, i, none⟩ (.int .i64 y)) b (x.set i y) := by
  unfold PuBlk
  rw [heap_setCell_same w b i _ _ _ h, ch_set]
def GvBlk (w : World) (b : Nat) (x : List Int) : Prop := w.heap[b]? = some (.cells (chC x) 95 (0, 0))
theorem GvBlk.lt {w : World} {b : Nat} {x : List Int} (h : GvBlk w b x) : b < w.heap.size := lt_of_block h
theorem GvBlk.below {w w' : World} {b n : Nat} {x : List Int} (h : GvBlk w b x) (hb : Below n w w') (hn : b < n) : GvBlk w' b x := (hb.block b hn).trans h
theorem GvBlk.cell {w : World} {b : Nat} {x : List Int} (h : GvBlk w b x) (i : Nat) (hi : i < x.length) : w.cell? ⟨b, i, none⟩ = some (.int .i64 (x.getD i 0)) := cellOf h i _ (ch_get x i hi)
theorem GvBlk.set {w : World} {b : Nat} {x : List Int} (h : GvBlk w b x) (i : Nat) (y : Int) : GvBlk (w.setCell ⟨b, i, none⟩ (.int .i64 y)) b (x.set i y) := by
  unfold GvBlk
  rw [heap_setCell_same w b i _ _ _ h, ch_set]
theorem gvZero : (Try.prog.info? 95).map (fun i => (i.zero, i.size)) = some (some (.agg (chC z5)), 5) := by kernel_rfl
theorem puSize : (Try.prog.info? 109).map (·.size) = some 8 := by kernel_rfl
/-- What the first edges' pushes give to the sheets. -/
def givStep (a b : Nat) (y : Int) (g : List Int) : List Int := (g.set a (g.getD a 0 + y)).set b ((g.set a (g.getD a 0 + y)).getD b 0 - y)
def givTo (l : List Edg) (p : List Int) : Nat → List Int
  | 0 => z5
  | k + 1 => givStep (l.getD k default).a.toNat (l.getD k default).b.toNat (p.getD k 0) (givTo l p k)
theorem givTo_length (l : List Edg) (p : List Int) : ∀ k, (givTo l p k).length = 5 := by
  intro k
  induction k with
  | zero => rfl
  | succ k ih => simp [givTo, givStep, ih]
def PuBd (p : List Int) : Prop := ∀ i, -100000 ≤ p.getD i 0 ∧ p.getD i 0 ≤ 100000
theorem z5_get (i : Nat) : z5.getD i 0 = 0 := by
  match i with
  | 0 => rfl
  | 1 => rfl
  | 2 => rfl
  | 3 => rfl
  | 4 => rfl
  | i + 5 => rfl
theorem givTo_bd (l : List Edg) (p : List Int) (hp : PuBd p) (hne : ∀ k, k < l.length → (l.getD k default).a.toNat ≠ (l.getD k default).b.toNat) : ∀ (k : Nat), k ≤ l.length → ∀ i, -100000 * (k : Int) ≤ (givTo l p k).getD i 0 ∧ (givTo l p k).getD i 0 ≤ 100000 * (k : Int) := by
  intro k
  induction k with
  | zero => intro _ i; have := z5_get i; simp only [givTo]; omega
  | succ k ih =>
    intro hk i
    have h1 := ih (by omega) i
    have h2 := ih (by omega) (l.getD k default).a.toNat
    have h3 := ih (by omega) (l.getD k default).b.toNat
    have h4 := hp k
    have h5 := hne k (by omega)
    simp only [givTo, givStep, getD_set]
    push_cast
    generalize (l.getD k default).a.toNat = a at *
    generalize (l.getD k default).b.toNat = b at *
    generalize (givTo l p k).getD a 0 = xa at *
    generalize (givTo l p k).getD b 0 = xb at *
    split <;> split <;> (try split) <;> omega
/-- What the first edges add to the bound. -/
def bndE (ws p : List Int) : Nat → Int
  | 0 => 0
  | k + 1 => bndE ws p k + (max (p.getD k 0) 0 * (wL ws k).1 + min (p.getD k 0) 0 * (wL ws k).2)
theorem mul_in {a b A B : Int} (a0 : -A ≤ a) (ab : a ≤ A) (b0 : -B ≤ b) (bb : b ≤ B) : -(A * B) ≤ a * b ∧ a * b ≤ A * B := by
  have h := Int.natAbs_mul a b
  have h1 : a.natAbs ≤ A.natAbs := by omega
  have h2 : b.natAbs ≤ B.natAbs := by omega
  have h3 : a.natAbs * b.natAbs ≤ A.natAbs * B.natAbs := Nat.mul_le_mul h1 h2
  have h4 : ((A.natAbs * B.natAbs : Nat) : Int) = A * B := by
    push_cast
    rw [Int.natAbs_of_nonneg (by omega), Int.natAbs_of_nonneg (by omega)]
  have h5 : ((a * b).natAbs : Int) ≤ A * B := by rw [h, ← h4]; exact_mod_cast h3
  omega
theorem bndE_bd (ws p : List Int) (hw : SpBd ws) (hp : PuBd p) : ∀ k : Nat, -4000000000 * (k : Int) ≤ bndE ws p k ∧ bndE ws p k ≤ 4000000000 * (k : Int) := by
  intro k
  induction k with
  | zero => simp [bndE]
  | succ k ih =>
    have h1 := hp k
    have h2 := hw k
    have m1 := mul_in (a := max (p.getD k 0) 0) (b := (wL ws k).1) (A := 100000) (B := 20000) (by omega) (by omega) (by omega) (by omega)
    have m2 := mul_in (a := min (p.getD k 0) 0) (b := (wL ws k).2) (A := 100000) (B := 20000) (by omega) (by omega) (by omega) (by omega)
    simp only [bndE]
    push_cast
    omega
/-- What the first sheets take away from it. -/
def bndS (l : List Sht) (g : List Int) (b : Int) : Nat → Int
  | 0 => b
  | k + 1 => bndS l g b k - (l.getD k default).most * max 0 (absI (g.getD k 0) - (l.getD k default).wt)
theorem bndS_bd (l : List Sht) (hl : ∀ s, s ∈ l → ShtOk s) (g : List Int) (hg : ∀ i, -800000 ≤ g.getD i 0 ∧ g.getD i 0 ≤ 800000) (b : Int) (b1 : -32000000000 ≤ b) (b2 : b ≤ 32000000000) : ∀ k, k ≤ l.length → -32000000000 - 4800000 * (k : Int) ≤ bndS l g b k ∧ bndS l g b k ≤ 32000000000 := by
  intro k
  induction k with
  | zero => intro _; simp only [bndS]; omega
  | succ k ih =>
    intro hk
    have h1 := ih (by omega)
    have h2 := hl l[k] (List.getElem_mem (by omega))
    have hget : l.getD k default = l[k] := by simp [List.getD_eq_getElem?_getD, show k < l.length by omega]
    have h3 := hg k
    have := h2.w0
    have := h2.w20
    have m1 := mul_bd (a := l[k].most) (b := max 0 (absI (g.getD k 0) - l[k].wt)) (A := 6) (B := 800000) h2.m0 h2.m6 (by omega) (by unfold absI; omega)
    simp only [bndS, hget]
    push_cast
    omega
def bndC (c : Cas) (ws p : List Int) : Int := bndS c.shs (givTo c.eds p c.eds.length) (bndE ws p c.eds.length) c.shs.length
end Go.Proofs.Ytojdocomkhihoaa
