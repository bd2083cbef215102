/- A list of numbers of 16 bits that came in, opened. -/
import Derived.Test.YteipihhpoakhpaaGreatDoorTurn
import Derived.Test.YteipihhpoakhpaaGreatDoorArg
set_option linter.unusedSimpArgs false
set_option linter.unusedVariables false
namespace Go.Proofs.YteipihhpoakhpaaGreatDoor
open Go Go.RowKit Hs Go.ChangeShapes Go.WideShapes Go.Deep Go.Joins

theorem cellsNum16 : Tryz.prog.cellsOf 64 = 1 := by kernel_rfl
theorem bytesNum16 : Tryz.prog.bytesOf 64 = 2 := by kernel_rfl
section
variable {H : Type} {enc : TypeId × Value → H} {W : World} {sp : Nat → Bool} {base : Nat} {v : Value} {d : DataW H} {p : List MemPlace}
set_option maxRecDepth 100000 in
theorem open_u16s (hok : Value.okWide Tryz.prog W .any base 56 v) (h : DataW.Trod enc Tryz.prog W 0 sp true 56 v d p) (hw : ∀ x ∈ d.weights Tryz.prog 56, x ≤ reachBytes) :
    ∃ l : List Nat, U16At W v l := by
  obtain ⟨a0, len0, cap0, rfl⟩ := okWide_slice Tryz.underlying56 hok
  obtain ⟨fuel, hf⟩ := h
  have hf' : DataW.trod enc Tryz.prog W 0 sp true fuel 56 [.slice a0 len0 cap0] = some (d, p) := hf
  rcases open_slice1 Tryz.underlying56 cellsNum16 hf' with ⟨hcs, _⟩ | ⟨a, len, cap, m, n', V, D, Pl, hcs, _, hl, hm, hmm, hx, hel⟩
  · simp only [List.cons.injEq, Value.slice.injEq, and_true] at hcs
    obtain ⟨rfl, rfl, rfl⟩ := hcs
    exact ⟨[], by simp, none, 0, rfl, fun h => absurd rfl h⟩
  · simp only [List.cons.injEq, Value.slice.injEq, and_true] at hcs
    obtain ⟨rfl, rfl, rfl⟩ := hcs
    have hlm : len0 ≤ m := by rw [hmm]; split <;> omega
    have hd : d = .slice ((List.range len0).map D) ((List.range (m - len0)).map fun j => D (len0 + j)) := congrArg Prod.fst hx
    have hb : len0 * 2 ≤ reachBytes := by
      have := hw ((((List.range len0).map D).length + ((List.range (m - len0)).map fun j => D (len0 + j)).length) * 2) (by rw [hd]; simp [DataW.weights, Tryz.underlying56, bytesNum16])
      simp only [List.length_map, List.length_range] at this
      omega
    have hr : reachBytes = 140737488351232 := rfl
    obtain ⟨f, hfl⟩ := choose_lt (α := Nat) (n := len0) (p := fun i x => W.cell? (a.add i) = some (.int .u16 x) ∧ x ≤ 65535) (fun i hi => by
      obtain ⟨h1, h2⟩ := hel i (by omega)
      obtain ⟨k, e, _, w⟩ := DataW.trod_int Tryz.underlying64 h2
      simp only [List.cons.injEq, and_true] at e
      have bd := bounds_u16 w
      refine ⟨k.toNat, ?_, by omega⟩
      rw [h1, e, Int.toNat_of_nonneg bd.1])
    refine ⟨(List.range len0).map f, by simp; omega, some a, cap0, by simp, fun hne => ?_⟩
    have h0 : 0 < len0 := by
      rcases Nat.eq_zero_or_pos len0 with h | h
      · subst h; exact absurd rfl hne
      · exact h
    obtain ⟨b, o, spot⟩ := a
    have hspot : spot = none := by simpa [Addr.add] using World.cell?_spot (hfl 0 h0).1
    subst hspot
    refine ⟨b, o, rfl, fun k hk => ?_⟩
    have hk' : k < len0 := by simpa using hk
    have hc := hfl k hk'
    rw [add_plain] at hc
    simpa [List.getD_eq_getElem?_getD, hk'] using hc
end
end Go.Proofs.YteipihhpoakhpaaGreatDoor
