/- Package scale: pairs and marks in memory; the errors of a road, of a scale, of marks. -/
import Derived.Test.YthflbbjilebhlaaUa
import Derived.Test.YthflbbjilebhlaaUg
set_option linter.unusedSimpArgs false
set_option linter.unusedVariables false
namespace Go.Proofs.Ythflbbjilebhlaa
open Go Go.RowKit Sc

/-- A value reads as a list of pairs (points of an edge, spans). -/
def PairsAt (w : World) (v : Value) (l : List (Int × Int)) : Prop :=
  l.length ≤ 4611686018427387904 ∧ ∃ a cap, v = .slice a l.length cap ∧ l.length ≤ cap ∧ (l ≠ [] → ∃ b o, a = some ⟨b, o, none⟩ ∧ ∀ k (h : k < l.length), w.cell? ⟨b, o + k * 2, none⟩ = some (.int .i64 l[k].1) ∧ w.cell? ⟨b, o + k * 2 + 1, none⟩ = some (.int .i64 l[k].2))
theorem PairsAt.below {w w' : World} {v : Value} {l : List (Int × Int)} (h : PairsAt w v l) (hb : Below w.heap.size w w') : PairsAt w' v l := by
  obtain ⟨h1, a, cap, rfl, hc, h2⟩ := h
  refine ⟨h1, a, cap, rfl, hc, fun hne => ?_⟩
  obtain ⟨b, o, rfl, hk⟩ := h2 hne
  refine ⟨b, o, rfl, fun k h => ?_⟩
  obtain ⟨c0, c1⟩ := hk k h
  have lt := World.block_lt_of_cell? w ⟨b, o + k * 2, none⟩ c0
  exact ⟨(hb.cell (p := ⟨b, o + k * 2, none⟩) lt).trans c0, (hb.cell (p := ⟨b, o + k * 2 + 1, none⟩) lt).trans c1⟩
theorem PairsAt.get {w : World} {a : Option Addr} {n cap : Nat} {l : List (Int × Int)} (h : PairsAt w (.slice a n cap) l) {k : Nat} (hk : k < l.length) :
    ∃ b o, a = some ⟨b, o, none⟩ ∧ w.cell? ⟨b, o + k * 2, none⟩ = some (.int .i64 l[k].1) ∧ w.cell? ⟨b, o + k * 2 + 1, none⟩ = some (.int .i64 l[k].2) := by
  obtain ⟨_, a', cap', e, _, h2⟩ := h
  simp only [Value.slice.injEq] at e
  obtain ⟨rfl, _, _⟩ := e
  obtain ⟨b, o, rfl, hc⟩ := h2 (by rintro rfl; simp at hk)
  exact ⟨b, o, rfl, hc k hk⟩
/-- A value reads as a list of marks. -/
def MrksAt (w : World) (v : Value) (l : List Mrk) : Prop :=
  l.length ≤ 4611686018427387904 ∧ ∃ a cap, v = .slice a l.length cap ∧ l.length ≤ cap ∧ (l ≠ [] → ∃ b o, a = some ⟨b, o, none⟩ ∧ ∀ k (h : k < l.length),
    w.cell? ⟨b, o + k * 3, none⟩ = some (.int .i64 l[k].pt) ∧ w.cell? ⟨b, o + k * 3 + 1, none⟩ = some (.int .i64 l[k].lo) ∧ w.cell? ⟨b, o + k * 3 + 2, none⟩ = some (.int .i64 l[k].hi))
theorem MrksAt.below {w w' : World} {v : Value} {l : List Mrk} (h : MrksAt w v l) (hb : Below w.heap.size w w') : MrksAt w' v l := by
  obtain ⟨h1, a, cap, rfl, hc, h2⟩ := h
  refine ⟨h1, a, cap, rfl, hc, fun hne => ?_⟩
  obtain ⟨b, o, rfl, hk⟩ := h2 hne
  refine ⟨b, o, rfl, fun k h => ?_⟩
  obtain ⟨c0, c1, c2⟩ := hk k h
  have lt := World.block_lt_of_cell? w ⟨b, o + k * 3, none⟩ c0
  exact ⟨(hb.cell (p := ⟨b, o + k * 3, none⟩) lt).trans c0, (hb.cell (p := ⟨b, o + k * 3 + 1, none⟩) lt).trans c1, (hb.cell (p := ⟨b, o + k * 3 + 2, none⟩) lt).trans c2⟩
theorem MrksAt.get {w : World} {a : Option Addr} {n cap : Nat} {l : List Mrk} (h : MrksAt w (.slice a n cap) l) {k : Nat} (hk : k < l.length) :
    ∃ b o, a = some ⟨b, o, none⟩ ∧ w.cell? ⟨b, o + k * 3, none⟩ = some (.int .i64 l[k].pt) ∧ w.cell? ⟨b, o + k * 3 + 1, none⟩ = some (.int .i64 l[k].lo) ∧ w.cell? ⟨b, o + k * 3 + 2, none⟩ = some (.int .i64 l[k].hi) := by
  obtain ⟨_, a', cap', e, _, h2⟩ := h
  simp only [Value.slice.injEq] at e
  obtain ⟨rfl, _, _⟩ := e
  obtain ⟨b, o, rfl, hc⟩ := h2 (by rintro rfl; simp at hk)
  exact ⟨b, o, rfl, hc k hk⟩
set_option maxRecDepth 100000 in
set_option maxHeartbeats 4000000 in
theorem roadFault_any (r : Int × Int) (n : Nat) (w : World) (hn : n ≤ 8) :
    Calls Try.prog 54 #[.agg #[.int .i64 r.1, .int .i64 r.2], .int .i64 n] w fun e w' => e = .returned (.int .i64 (rdE n r)) ∧ Below w.heap.size w w' := by
  obtain ⟨a, b⟩ := r
  simp only
  have hB : Below w.heap.size w (w.alloc (Obj.cells #[.int .i64 a, .int .i64 b] 79)) := by go_grown
  have HB := Lib.hid hB
  have HG := Lib.hid (heap_alloc_new w (Obj.cells #[.int .i64 a, .int .i64 b] 79))
  have HE : Hid (rdE n (a, b) = if inB 0 ((n : Int) - 1) a = false ∨ inB 0 ((n : Int) - 1) b = false then 4 else if a = b then 2 else 0) := rfl
  have nI : (n : Int) ≤ 8 := by omega
  clear hB
  go_enter Try.func54, Try.ntmps54
  go_wp2_with fail
  have hsz : w.heap.size + 1 = (w.alloc (Obj.cells #[.int .i64 a, .int .i64 b] 79)).heap.size := by simp
  generalize w.alloc (Obj.cells #[.int .i64 a, .int .i64 b] 79) = w0 at *
  have h1 := within_2 0 ((n : Int) - 1) a b w0 (w.heap.size + 1) 3 hsz
  obtain ⟨B1, hB1⟩ : ∃ B, okIn 0 ((n : Int) - 1) a = B := ⟨_, rfl⟩
  obtain ⟨B2, hB2⟩ : ∃ B, okIn 0 ((n : Int) - 1) b = B := ⟨_, rfl⟩
  have e1 : inB 0 ((n : Int) - 1) a = B1 := hB1
  have e2 : inB 0 ((n : Int) - 1) b = B2 := hB2
  rw [hB1, hB2] at h1
  rw [e1, e2] at HE
  have HC1 := Lib.hid h1
  clear h1 hB1 e1 hB2 e2 hsz
  refine HC1.out.mono ?_
  rintro e w1 ⟨rfl, rfl⟩
  clear HC1
  have hb1 : Below w0.heap.size w0 (w0.alloc (Obj.cells #[.int .i64 a, .int .i64 b] 3)) := by go_grown
  have HB1 := Lib.hid (HB.out.trans (hb1.mono HB.out.size))
  have HG1 := Lib.hid ((hb1.block _ (lt_of_block HG.out)).trans HG.out)
  generalize w0.alloc (Obj.cells #[.int .i64 a, .int .i64 b] 3) = w1 at *
  clear hb1 HB HG
  by_cases hbb : (B1 && B2) = false
  · have hor : B1 = false ∨ B2 = false := by revert hbb; cases B1 <;> cases B2 <;> simp
    rw [if_pos hor] at HE
    rw [hbb]
    clear hor hbb
    go_wp2_with fail
    go_ret
    exact ⟨by rw [HE.out]; rfl, HB1.out⟩
  · have hbt : (B1 && B2) = true := by simpa using hbb
    have hor : ¬ (B1 = false ∨ B2 = false) := by revert hbb; cases B1 <;> cases B2 <;> simp
    rw [if_neg hor] at HE
    rw [hbt]
    clear hor hbb hbt
    have g0 := cellOf HG1.out 0 _ rfl
    have g1 := cellOf HG1.out 1 _ rfl
    have gl := lt_of_block HG1.out
    by_cases hab : a = b
    · rw [if_pos hab] at HE
      have qab : (a == b) = true := by simp [hab]
      clear hab
      go_wp2_with fail
      go_ret
      exact ⟨by rw [HE.out]; rfl, HB1.out⟩
    · rw [if_neg hab] at HE
      have qab : (a == b) = false := by simp [hab]
      clear hab
      go_wp2_with fail
      go_ret
      exact ⟨by rw [HE.out]; rfl, HB1.out⟩
end Go.Proofs.Ythflbbjilebhlaa
