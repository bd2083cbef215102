/- Facts that several statements share: what Wrong hands back, how heights lie in memory, a note in a block of its own. (The same as in the texts of other statements, kept apart from them.) No program is walked here. -/
import Derived.Test.YtpmnnomeaaaenaaGreatDoorSol
import Derived.Test.YtpmnnomeaaaenaaGreatDoorPw
import Derived.Test.YtpmnnomeaaaenaaGreatDoorHts
import Derived.Test.YtpmnnomeaaaenaaGreatDoorHigh
set_option linter.unusedSimpArgs false
set_option linter.unusedVariables false
namespace Go.Proofs.YtpmnnomeaaaenaaGreatDoor
namespace Fct
open Go Go.RowKit Hs Dc

theorem asc_range (n : Nat) : Asc n ((List.range n).map Int.ofNat) := by
  refine ⟨?_, fun x hx => ?_⟩
  · rw [List.pairwise_map]
    exact (List.pairwise_lt_range (n := n)).imp (fun h => by simpa using h)
  · obtain ⟨a, ha, rfl⟩ := List.mem_map.1 hx
    have := List.mem_range.1 ha
    simp; omega
theorem havK_iff (l : List Note) (list : List Int) (inn : Bool) (x : Note) : ∀ k, x ∈ havK l list inn k ↔ ∃ j, j < k ∧ decide ((j : Int) ∈ list) = inn ∧ l[j]? = some x := by
  intro k
  induction k with
  | zero => simp [havK]
  | succ k ih =>
    rw [havK]
    split
    · rename_i h
      rw [List.mem_append, ih]
      constructor
      · rintro (⟨j, h1, h2, h3⟩ | h1)
        · exact ⟨j, by omega, h2, h3⟩
        · exact ⟨k, by omega, h, by simpa using h1⟩
      · rintro ⟨j, h1, h2, h3⟩
        by_cases e : j = k
        · subst e; right; simpa using h3
        · left; exact ⟨j, by omega, h2, h3⟩
    · rename_i h
      rw [ih]
      constructor
      · rintro ⟨j, h1, h2, h3⟩; exact ⟨j, by omega, h2, h3⟩
      · rintro ⟨j, h1, h2, h3⟩
        by_cases e : j = k
        · subst e; exact absurd h2 h
        · exact ⟨j, by omega, h2, h3⟩
theorem havK_nil (l : List Note) : ∀ k, k ≤ l.length → havK l [] false k = l.take k := by
  intro k
  induction k with
  | zero => intro _; rfl
  | succ k ih =>
    intro hk
    rw [havK, if_pos (by simp), ih (by omega), List.take_add_one]
theorem fitB_none (iv : Int) : fitB iv 0 [] = true := by
  rw [fitB_iff]
  refine ⟨fun _ => 0, fun a b ha hb => ?_, fun x hx => by simp [bdsL] at hx⟩
  have := unbFar_ent ⟨a, ha⟩ ⟨b, hb⟩
  simp only at this
  show (0 : Int) - 0 ≤ _
  rw [this]
  split <;> omega
theorem wrong_facts {s : Sheet} (h : ValidS s) : Asc s.notes.length (wrongL s) ∧ fitB s.iv 0 (havK s.notes (wrongL s) false s.notes.length) = true ∧
    ∀ t, Asc s.notes.length t → fitB s.iv 0 (havK s.notes t false s.notes.length) = true → (wrongL s).length ≤ t.length := by
  have e1 : wrongL s = fewS s.notes.length (wrongG s) := by unfold wrongL; rw [errS_zero h, if_pos rfl]
  obtain ⟨s1, s2⟩ := fewS_spec (wrongG s) s.notes.length
  have hnone : havK s.notes ((List.range s.notes.length).map Int.ofNat) false s.notes.length = [] := by
    rw [List.eq_nil_iff_forall_not_mem]
    intro x hx
    rw [havK_iff] at hx
    obtain ⟨j, hj, hd, _⟩ := hx
    rw [decide_eq_false_iff_not] at hd
    exact hd (List.mem_map.2 ⟨j, List.mem_range.2 hj, rfl⟩)
  have hall : wrongG s ((List.range s.notes.length).map Int.ofNat) = true := by
    unfold wrongG
    rw [hnone]
    exact fitB_none _
  have hg := (s2 _ (asc_range _) hall).1
  refine ⟨by rw [e1]; exact s1, ?_, fun t ht hb => ?_⟩
  · rw [← e1] at hg
    exact hg
  · rw [e1]
    exact (s2 t ht hb).2
def SpM (w : World) (g : Nat) (M : List Int) (n : Nat) : Prop := ∀ i, i < n → w.cell? ⟨g, i * 2, none⟩ = some (.int .i64 (-(ent M 8 i))) ∧ w.cell? ⟨g, i * 2 + 1, none⟩ = some (.int .i64 (ent M i 8))
theorem SpM.below {w w' : World} {g : Nat} {M : List Int} {n : Nat} (h : SpM w g M n) (hb : Below w.heap.size w w') : SpM w' g M n := fun i hi =>
  ⟨(hb.cell (p := ⟨g, i * 2, none⟩) (World.block_lt_of_cell? w _ (h i hi).1)).trans (h i hi).1, (hb.cell (p := ⟨g, i * 2 + 1, none⟩) (World.block_lt_of_cell? w _ (h i hi).2)).trans (h i hi).2⟩
theorem spm_of {n : Nat} {w : World} {v : Value} {s : Sheet} (h : SpansAt n w v (heightS s)) : ∃ g, v = .slice (some ⟨g, 0, none⟩) s.pts.length s.pts.length ∧ SpM w g (measM s) s.pts.length := by
  obtain ⟨g, e, _, _, hc⟩ := h
  have hl : (heightS s).length = s.pts.length := by simp [heightS]
  rw [hl] at e
  refine ⟨g, e, fun i hi => ?_⟩
  obtain ⟨c0, c1⟩ := hc i (by omega)
  have hE : (heightS s)[i]'(by omega) = (-(ent (measM s) 8 i), ent (measM s) i 8) := by
    simp only [heightS, List.getElem_map, List.getElem_range]
    rfl
  rw [hE] at c0 c1
  exact ⟨c0, c1⟩
theorem highS_len (s : Sheet) : (highS s).length ≤ s.pts.length := by
  unfold highS
  split
  · exact topsK_le _ _ _
  · simp
theorem one_notes {w : World} {g : Nat} {k a b lo hi : Int} (h : w.heap[g]? = some (.cells #[.int .i64 k, .int .i64 a, .int .i64 b, .int .i64 lo, .int .i64 hi] 67 (0, 0))) : NotesAt w.heap.size w (.slice (some ⟨g, 0, none⟩) 1 1) [⟨k, a, b, lo, hi⟩] := by
  refine ⟨by simp, some ⟨g, 0, none⟩, 1, rfl, fun _ => ⟨g, 0, rfl, lt_of_block h, fun j hj => ?_⟩⟩
  obtain rfl : j = 0 := by simpa using hj
  exact ⟨cellOf h 0 _ rfl, cellOf h 1 _ rfl, cellOf h 2 _ rfl, cellOf h 3 _ rfl, cellOf h 4 _ rfl⟩
theorem mod_nat (x n : Nat) : ((x : Int)).tmod (n : Int) = ((x % n : Nat) : Int) := by
  rw [Int.tmod_eq_emod_of_nonneg (by omega)]
  exact (Int.natCast_emod x n).symm
end Fct
end Go.Proofs.YtpmnnomeaaaenaaGreatDoor
