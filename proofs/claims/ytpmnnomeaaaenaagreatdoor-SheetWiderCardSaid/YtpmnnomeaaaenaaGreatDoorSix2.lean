/- Two lists of numbers of 16 bits that came in as an array, opened. -/
import Derived.Test.YtpmnnomeaaaenaaGreatDoorCbase
import Derived.Test.YtpmnnomeaaaenaaGreatDoorTurn
set_option linter.unusedSimpArgs false
set_option linter.unusedVariables false
namespace Go.Proofs.YtpmnnomeaaaenaaGreatDoor
open Go Go.RowKit Hs Go.ChangeShapes Go.WideShapes Go.Deep Go.Joins

theorem cellsN16 : Tryz.prog.cellsOf 64 = 1 := by kernel_rfl
theorem bytesN16 : Tryz.prog.bytesOf 64 = 2 := by kernel_rfl
theorem cellsSl16 : Tryz.prog.cellsOf 56 = 1 := by kernel_rfl
theorem cellsArr16 : Tryz.prog.cellsOf 57 = 2 := by kernel_rfl
section
variable {H : Type} {enc : TypeId × Value → H} {W : World} {sp : Nat → Bool} {base : Nat} {v : Value} {d : DataW H} {p : List MemPlace}
set_option maxRecDepth 100000 in
theorem reads_u16s {n : Nat} {y : DataW H × List MemPlace} (h : DataW.trod enc Tryz.prog W 0 sp true n 56 [v] = some y) (hw : ∀ x ∈ y.1.weights Tryz.prog 56, x ≤ reachBytes) : ∃ l : List Nat, U16At W v l := by
  rcases open_slice1 Tryz.underlying56 cellsN16 h with ⟨hcs, _⟩ | ⟨a, len, cap, m, n', V, D, Pl, hcs, _, hl, hm, hmm, hx, hel⟩
  · simp only [List.cons.injEq, and_true] at hcs
    subst hcs
    exact ⟨[], by simp, none, 0, rfl, fun h => absurd rfl h⟩
  · simp only [List.cons.injEq, and_true] at hcs
    subst hcs
    have hlm : len ≤ m := by rw [hmm]; split <;> omega
    have hb : len * 2 ≤ reachBytes := by
      have := hw ((((List.range len).map D).length + ((List.range (m - len)).map fun j => D (len + j)).length) * 2) (by rw [hx]; simp [DataW.weights, Tryz.underlying56, bytesN16])
      simp only [List.length_map, List.length_range] at this
      omega
    have hr : reachBytes = 140737488351232 := rfl
    obtain ⟨f, hfl⟩ := choose_lt (α := Nat) (n := len) (p := fun i x => W.cell? (a.add i) = some (.int .u16 x) ∧ x ≤ 65535) (fun i hi => by
      obtain ⟨h1, h2⟩ := hel i (by omega)
      obtain ⟨k, e, _, w⟩ := DataW.trod_int Tryz.underlying64 h2
      simp only [List.cons.injEq, and_true] at e
      have bd := bounds_u16 w
      refine ⟨k.toNat, ?_, by omega⟩
      rw [h1, e, Int.toNat_of_nonneg bd.1])
    refine ⟨(List.range len).map f, by simp; omega, some a, cap, by simp, fun hne => ?_⟩
    have h0 : 0 < len := by
      rcases Nat.eq_zero_or_pos len with h | h
      · subst h; exact absurd rfl hne
      · exact h
    obtain ⟨b, o, spot⟩ := a
    have hspot : spot = none := by simpa [Addr.add] using World.cell?_spot (hfl 0 h0).1
    subst hspot
    refine ⟨b, o, rfl, fun k hk => ?_⟩
    have hk' : k < len := by simpa using hk
    have hc := hfl k hk'
    rw [add_plain] at hc
    simpa [List.getD_eq_getElem?_getD, hk'] using hc
set_option maxRecDepth 100000 in
theorem open_u16x2 (hok : Value.okWide Tryz.prog W .any base 57 v) (h : DataW.Trod enc Tryz.prog W 0 sp true 57 v d p) (hw : ∀ x ∈ d.weights Tryz.prog 57, x ≤ reachBytes) :
    ∃ (xv yv : Value) (l1 l2 : List Nat), v = .agg #[xv, yv] ∧ U16At W xv l1 ∧ U16At W yv l2 := by
  obtain ⟨cs, rfl, hsz⟩ := okWide_arr2 Tryz.underlying57 hok
  rw [cellsArr16] at hsz
  obtain ⟨l⟩ := cs
  match l, hsz with
  | [c0, c1], _ =>
    obtain ⟨fuel, hf⟩ := h
    obtain ⟨xs, m, _, hx, _, hlen, hg⟩ := DataW.trod_array Tryz.underlying57 hf
    match xs, hlen with
    | [y0, y1], _ =>
      have h0 := hg 0 (by omega)
      have h1 := hg 1 (by omega)
      rw [cellsSl16] at h0 h1
      have hd : d = .agg [y0.1, y1.1] := congrArg Prod.fst hx
      rw [hd] at hw
      simp only [DataW.weights, Tryz.underlying57] at hw
      have g0 : DataW.trod enc Tryz.prog W 0 sp true m 56 [c0] = some y0 := h0
      have g1 : DataW.trod enc Tryz.prog W 0 sp true m 56 [c1] = some y1 := h1
      obtain ⟨l1, e1⟩ := reads_u16s g0 (fun x hx => hw x (by simp [DataW.weightsAll, hx]))
      obtain ⟨l2, e2⟩ := reads_u16s g1 (fun x hx => hw x (by simp [DataW.weightsAll, hx]))
      exact ⟨c0, c1, l1, l2, rfl, e1, e2⟩
end
end Go.Proofs.YtpmnnomeaaaenaaGreatDoor
