/- slices.Index and slices.Contains on ints. -/
import Derived.Test.YtpjfljpkpifhbaaGreatDoorApt
set_option linter.unusedSimpArgs false
set_option linter.unusedVariables false
namespace Go.Proofs.YtpjfljpkpifhbaaGreatDoor
open Go Go.RowKit Hs

set_option maxHeartbeats 400000 in
theorem index_any (x : Int) (v : Value) (l : List Int) (w : World) (hv : IntsAt w v l) :
    Calls Tryz.prog 58 #[v, .int .i64 x] w fun e w' => (∃ r : Int, e = .returned (.int .i64 r) ∧ (0 ≤ r ↔ x ∈ l)) ∧ w = w' := by
  obtain ⟨hm, a, cap, rfl, hc⟩ := hv
  have hm' : (l.length : Int) ≤ 4611686018427387904 := by omega
  go_enter Tryz.func58, Tryz.ntmps58
  go_wp2
  go_loop [8] (fun i => ∃ k : Nat, k ≤ l.length ∧ i = .int .i64 k ∧ Hid (x ∉ l.take k)) (fun i => l.length - (intOf i).toNat)
  case atStart => exact ⟨0, Nat.zero_le _, rfl, by show _ ∉ _; simp⟩
  case round =>
    obtain ⟨k, hk, rfl, HW⟩ := hrel
    by_cases hlt : k < l.length
    · obtain ⟨b, o, rfl, hd⟩ := hc (by intro e; simp [e] at hlt)
      have hck := hd k hlt
      have hg : l.getD k 0 = l[k] := by simp [hlt]
      rw [hg] at hck
      have HX : Hid (l[k] = x → x ∈ l) := fun e => e ▸ List.getElem_mem hlt
      have HN : Hid (l[k] ≠ x → x ∉ l.take (k + 1)) := fun e h => by
        rw [List.take_succ_eq_append_getElem hlt, List.mem_append] at h
        rcases h with h | h
        · exact HW.out h
        · simp at h; exact e h.symm
      clear hc hd hg
      generalize l[k] = y at *
      by_cases hy : y = x
      · have e1 : (x == y) = true := by simp [hy]
        have HY := Lib.hid hy
        clear hy
        go_wp2
        go_ret
        exact ⟨⟨k, rfl, by simp; exact HX.out HY.out⟩, rfl⟩
      · have e1 : (x == y) = false := by simp; exact fun h => hy h.symm
        have HY := Lib.hid hy
        clear hy
        go_wp2
        go_round
        case rel => exact ⟨k + 1, by omega, by go_num, HN.out HY.out⟩
        case measure => simp [intOf]; omega
    · go_wp2
      go_ret
      have e : l.take k = l := List.take_of_length_le (by omega)
      have h := HW.out
      rw [e] at h
      exact ⟨⟨-1, rfl, by simp; exact h⟩, rfl⟩

set_option maxHeartbeats 400000 in
theorem contains_any (x : Int) (v : Value) (l : List Int) (w : World) (hv : IntsAt w v l) :
    Calls Tryz.prog 43 #[v, .int .i64 x] w fun e w' => e = .returned (.bool (decide (x ∈ l))) ∧ w = w' := by
  have hc := Lib.hid (index_any x v l w hv)
  go_enter Tryz.func43, Tryz.ntmps43
  go_wp2_with fail
  refine hc.out.mono ?_
  rintro e w' ⟨⟨r, rfl, hr⟩, rfl⟩
  have HR := Lib.hid hr
  clear hr hc
  go_wp2
  go_ret
  refine ⟨?_, rfl⟩
  by_cases h : 0 ≤ r
  · have h2 := HR.out.1 h
    simp [h, h2]
  · have h2 : x ∉ l := fun m => h (HR.out.2 m)
    simp [h, h2]
end Go.Proofs.YtpjfljpkpifhbaaGreatDoor
