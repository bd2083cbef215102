/- Cases without some edges, as plain data. No program is named here. -/
import Derived.Test.YtojdocomkhihoaaPb
import Derived.Test.YtojdocomkhihoaaHm1
import Derived.Test.YtojdocomkhihoaaFl1
set_option linter.unusedSimpArgs false
set_option linter.unusedVariables false
namespace Go.Proofs.Ytojdocomkhihoaa
open Go Go.RowKit Ed

theorem wsC_bd (c : Cas) (hv : Valid c) : SpBd (wsC c) := by
  have hw : ∀ i, i < c.eds.length → -9050 ≤ (wantF c i).1 ∧ (wantF c i).1 ≤ 9050 ∧ -9050 ≤ (wantF c i).2 ∧ (wantF c i).2 ≤ 9050 := by
    intro i hi
    have h := wantS_bd c.tol hv.t0 hv.t50 (c.eds.getD i default).pts (by rw [getD_lt _ _ hi]; exact (hv.ed _ (List.getElem_mem hi)).pt) (c.eds.getD i default).pts.length (Nat.le_refl _)
    rw [List.take_length] at h
    exact h
  have hj : ∀ j, -9050 ≤ (wsC c).getD j 0 ∧ (wsC c).getD j 0 ≤ 9050 := by
    intro j
    rcases Nat.lt_or_ge j 16 with h | h
    · simp only [wsC, wsTo, List.getD_eq_getElem?_getD, List.getElem?_map, List.getElem?_range h, Option.map_some, Option.getD_some]
      split
      · rename_i h2
        have := hw (j / 2) h2
        split <;> omega
      · omega
    · rw [List.getD_eq_getElem?_getD, List.getElem?_eq_none (by rw [wsC_length]; exact h)]
      simp
  intro i
  have h1 := hj (i * 2)
  have h2 := hj (i * 2 + 1)
  simp only [wL]
  omega
theorem less_valid (c : Cas) (hv : Valid c) (s : Nat) : Valid (lessC c s) := by
  refine ⟨hv.t0, hv.t50, hv.n1, hv.n5, ?_, hv.sh, fun d hd => ?_⟩
  · simp only [lessC, List.length_map]
    have := resK_le s c.eds.length
    have := hv.m8
    omega
  · simp only [lessC, List.mem_map] at hd
    obtain ⟨j, hj, rfl⟩ := hd
    have hjm : j < c.eds.length := List.mem_range.1 (List.mem_filter.1 hj).1
    rw [getD_lt _ _ hjm]
    exact hv.ed _ (List.getElem_mem hjm)
/-- A list of numbers in a set. -/
def lsI (s m : Nat) : List Int := (lstK s m).map fun (j : Nat) => (j : Int)
/-- Whether changes agree without the edges of a set. -/
def canS (c : Cas) (s : Nat) : Bool := (highC (lessC c s) (wsC (lessC c s))).2
/-- The lists without which changes agree, of some sets. -/
def spareTo (c : Cas) (l : List Nat) : List (List Int) := l.filterMap fun s => if canS c s then some (lsI s c.eds.length) else none
theorem spareTo_snoc (c : Cas) (l : List Nat) (s : Nat) : spareTo c (l ++ [s]) = if canS c s = true then spareTo c l ++ [lsI s c.eds.length] else spareTo c l := by
  unfold spareTo
  rw [List.filterMap_append]
  cases h : canS c s <;> simp [h]
theorem spareTo_length (c : Cas) (l : List Nat) : (spareTo c l).length ≤ l.length := List.length_filterMap_le _ _
def spareL (c : Cas) : List (List Int) := spareTo c (setsL c.eds.length)
/-- The fewest edges without which changes agree. -/
def withoutC (c : Cas) : List Int := (bestS fewE [] (spareL c)).1
end Go.Proofs.Ytojdocomkhihoaa
