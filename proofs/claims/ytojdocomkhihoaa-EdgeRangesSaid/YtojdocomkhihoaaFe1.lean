/- Package edge: highest, as plain data; the comparison of changes. -/
import Derived.Test.YtojdocomkhihoaaFb1
import Derived.ChangeKeysEq
set_option linter.unusedSimpArgs false
set_option linter.unusedVariables false
namespace Go.Proofs.Ytojdocomkhihoaa
open Go Go.RowKit Ed

theorem ch_items (d : Nat) (p q : List Int) (w : World) : ∀ is : List Nat, (∀ i, i ∈ is → i < p.length ∧ i < q.length) →
    (Op.eqItems (d + 1) 3 1 (chC p) (chC q) is).run Try.prog w = .ok (is.all fun i => p[i]?.getD 0 == q[i]?.getD 0) w
  | [], _ => by simp [Op.eqItems]
  | i :: is, h => by
    obtain ⟨h1, h2⟩ := h i (by simp)
    have ih := ch_items d p q w is (fun j hj => h j (by simp [hj]))
    have pk : Try.prog.plainKey 3 = true := by kernel_rfl
    have e1 := run_part_plain (w := w) pk (off := i * 1) (by rw [Nat.mul_one]; exact ch_get p i h1)
    have e2 := run_part_plain (w := w) pk (off := i * 1) (by rw [Nat.mul_one]; exact ch_get q i h2)
    have e3 := run_equalIn_int (P := Try.prog) (w := w) d 3 .i64 .i64 (p.getD i 0) (q.getD i 0) Try.underlying3
    simp only [Op.eqItems, Sem.run_bind, e1, e2, e3, Result.andThen_ok]
    cases hb : (p.getD i 0 == q.getD i 0)
    · simp at hb
      simp [hb]
    · simp at hb
      simp [ih, hb]
theorem ch_eql (p q : List Int) (hp : p.length = 5) (hq : q.length = 5) (w : World) :
    (Op.equalIn 10000 96 (.agg (chC p)) (.agg (chC q))).run Try.prog w = .ok (decide (p = q)) w := by
  obtain ⟨inf, hinf⟩ := info_of_underlying Try.underlying3
  have hc : Try.prog.cellsOf 3 = 1 := by kernel_rfl
  rw [run_equalIn_array (w := w) 9999 _ _ Try.underlying96 hinf, hc, ch_items 9998 p q w (List.range 5) (by intro j hj; simp at hj; omega)]
  refine congrArg (fun b => Result.ok b w) ?_
  rw [Bool.eq_iff_iff, List.all_eq_true, decide_eq_true_iff]
  constructor
  · intro hall
    apply List.ext_getElem (by omega)
    intro n h1 h2
    have := hall n (by simp; omega)
    simpa [h1, h2] using this
  · intro e
    simp [e]
theorem lowTo_out (l : List Edg) (ws x : List Int) (n : Nat) (hl : ∀ d, d ∈ l → EdgOk n d) (i : Nat) (hi : n ≤ i) : ∀ k, k ≤ l.length → (lowTo l ws x k).getD i 0 = x.getD i 0 := by
  intro k
  induction k with
  | zero => intro _; rfl
  | succ k ih =>
    intro hk
    have e : l.getD k default = l[k] := by simp [List.getD_eq_getElem?_getD, show k < l.length by omega]
    have h := hl l[k] (List.getElem_mem (by omega))
    have h1 := h.a0
    have h2 := h.an
    have h3 := h.b0
    have h4 := h.bn
    simp only [lowTo, lowStep, getD_set, e]
    rw [if_neg (by omega), if_neg (by omega)]
    exact ih (by omega)
theorem lowK_no {l : List Sht} {x : List Int} {n : Nat} (h : lowK l x n = false) (i : Nat) (hi : i < n) : -(l.getD i default).most ≤ x.getD i 0 := by
  unfold lowK at h
  rw [List.any_eq_false] at h
  have := h i (List.mem_range.2 hi)
  simp only [decide_eq_true_eq] at this
  omega
/-- Each sheet raised by its Most, the first so many. -/
def mostTo (l : List Sht) (k : Nat) : List Int := (List.range 5).map fun i => if i < k then (l.getD i default).most else 0
theorem mostTo_length (l : List Sht) (k : Nat) : (mostTo l k).length = 5 := by simp [mostTo]
theorem mostTo_zero (l : List Sht) : mostTo l 0 = z5 := by simp [mostTo, z5, List.range, List.range.loop]
theorem mostTo_succ (l : List Sht) (k : Nat) (hk : k < 5) : (mostTo l k).set k (l.getD k default).most = mostTo l (k + 1) := by
  apply List.ext_getElem?
  intro j
  rcases Nat.lt_or_ge j 5 with hj | hj
  · rw [List.getElem?_set]
    by_cases e : k = j
    · subst e
      rw [if_pos rfl, if_pos (by rw [mostTo_length]; exact hk)]
      simp only [mostTo, List.getElem?_map, List.getElem?_range hj, Option.map_some]
      rw [if_pos (by omega)]
    · rw [if_neg e]
      simp only [mostTo, List.getElem?_map, List.getElem?_range hj, Option.map_some, Option.some.injEq]
      by_cases q : j < k
      · rw [if_pos q, if_pos (by omega)]
      · rw [if_neg q, if_neg (by omega)]
  · rw [List.getElem?_eq_none (by rw [List.length_set, mostTo_length]; exact hj), List.getElem?_eq_none (by rw [mostTo_length]; exact hj)]
theorem mostTo_bd (l : List Sht) (hl : ∀ s, s ∈ l → ShtOk s) (k : Nat) (hk : k ≤ l.length) (i : Nat) : 0 ≤ (mostTo l k).getD i 0 ∧ (mostTo l k).getD i 0 ≤ 6 := by
  rcases Nat.lt_or_ge i 5 with hi | hi
  · simp only [mostTo, List.getD_eq_getElem?_getD, List.getElem?_map, List.getElem?_range hi, Option.map_some, Option.getD_some]
    by_cases q : i < k
    · rw [if_pos q, List.getElem?_eq_getElem (by omega), Option.getD_some]
      have := hl l[i] (List.getElem_mem (by omega))
      exact ⟨this.m0, this.m6⟩
    · rw [if_neg q]; omega
  · rw [List.getD_eq_getElem?_getD, List.getElem?_eq_none (by rw [mostTo_length]; exact hi)]
    simp
/-- The tries that highest makes. -/
def highGo (c : Cas) (ws : List Int) : Nat → List Int → List Int × Bool
  | 0, _ => (z5, false)
  | g + 1, x => if lowTo c.eds ws x c.eds.length = x then (x, true) else if lowK c.shs (lowTo c.eds ws x c.eds.length) c.shs.length = true then (z5, false) else highGo c ws g (lowTo c.eds ws x c.eds.length)
def highC (c : Cas) (ws : List Int) : List Int × Bool := highGo c ws 5 (mostTo c.shs c.shs.length)
theorem high_keeps (c : Cas) (hv : Valid c) (ws x : List Int) (hw : SpBd ws) (hx : ∀ i, -100000 ≤ x.getD i 0 ∧ x.getD i 0 ≤ 100000) (h : lowK c.shs (lowTo c.eds ws x c.eds.length) c.shs.length = false) (i : Nat) :
    -100000 ≤ (lowTo c.eds ws x c.eds.length).getD i 0 ∧ (lowTo c.eds ws x c.eds.length).getD i 0 ≤ 100000 := by
  refine ⟨?_, (lowTo_bd c.eds ws x hw hx _ i).2⟩
  rcases Nat.lt_or_ge i c.shs.length with hi | hi
  · have h1 := lowK_no h i hi
    have e : c.shs.getD i default = c.shs[i] := by simp [List.getD_eq_getElem?_getD, hi]
    have h2 := (hv.sh c.shs[i] (List.getElem_mem hi)).m6
    rw [e] at h1
    omega
  · rw [lowTo_out c.eds ws x c.shs.length hv.ed i hi _ (Nat.le_refl _)]
    exact (hx i).1
end Go.Proofs.Ytojdocomkhihoaa
