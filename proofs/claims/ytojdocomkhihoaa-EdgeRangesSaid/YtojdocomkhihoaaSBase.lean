/- Small predicates on values and worlds: how lists of integers lie in memory. No condition. -/
import Derived.WalkKit
import Derived.WalkSpells
import Derived.WalkLawsBesides
import Derived.Lib.Hide
import Derived.Test.YtojdocomkhihoaaProg
import Derived.Test.YtojdocomkhihoaaData
import Derived.Test.YtojdocomkhihoaaChecked
set_option linter.unusedSimpArgs false
set_option linter.unusedVariables false
namespace Go.Proofs.Ytojdocomkhihoaa.Sht
open Go Go.RowKit

/-- A value reads as a list of integers in a world. -/
def IntsAt (w : World) (v : Value) (l : List Int) : Prop :=
  l.length ≤ 4611686018427387904 ∧ ∃ a cap, v = .slice a l.length cap ∧ (l ≠ [] → ∃ b o, a = some ⟨b, o, none⟩ ∧ ∀ k, k < l.length → w.cell? ⟨b, o + k, none⟩ = some (.int .i64 (l.getD k 0)))

open Hs (withinB)
theorem withinB_not (lo hi : Int) (l : List Int) (k : Nat) (h : k < l.length) (hb : l[k] < lo ∨ hi < l[k]) : withinB lo hi l = false := by
  unfold withinB
  rw [List.all_eq_false]
  exact ⟨l[k], List.getElem_mem h, by simp; omega⟩
theorem withinB_more (lo hi : Int) (l : List Int) (k : Nat) (h : k < l.length) (hw : withinB lo hi (l.take k) = true) (h1 : lo ≤ l[k]) (h2 : l[k] ≤ hi) : withinB lo hi (l.take (k + 1)) = true := by
  unfold withinB at *
  rw [List.take_succ_eq_append_getElem h, List.all_append, hw]
  simp [h1, h2]
set_option maxHeartbeats 400000 in
theorem within_any (lo hi : Int) (v : Value) (l : List Int) (w : World) (hv : IntsAt w v l) :
    Calls Try.prog 100 #[.int .i64 lo, .int .i64 hi, v] w fun e w' => e = .returned (.bool (withinB lo hi l)) ∧ w = w' := by
  obtain ⟨hm, a, cap, rfl, hc⟩ := hv
  go_enter Try.func100, Try.ntmps100
  go_wp2
  go_loop [11] (fun i => ∃ k : Nat, k ≤ l.length ∧ i = .int .i64 k ∧ withinB lo hi (l.take k) = true) (fun i => l.length - (intOf i).toNat)
  case atStart => exact ⟨0, Nat.zero_le _, rfl, rfl⟩
  case round =>
    obtain ⟨k, hk, rfl, hw⟩ := hrel
    have HW := Lib.hid hw
    clear hw
    by_cases hlt : k < l.length
    · obtain ⟨b, o, rfl, hd⟩ := hc (by intro e; simp [e] at hlt)
      have hck := hd k hlt
      clear hc hd
      go_wp2
      all_goals first
        | (go_ret; exact ⟨by rw [withinB_not lo hi l k hlt (by omega)]; rfl, rfl⟩)
        | (go_round
           case rel => exact ⟨k + 1, by omega, by go_num, withinB_more lo hi l k hlt HW.out (by omega) (by omega)⟩
           case measure => simp [intOf]; omega)
    · go_wp2
      go_ret
      have e : l.take k = l := List.take_of_length_le (by omega)
      rw [e] at HW
      exact ⟨by rw [HW.out]; rfl, rfl⟩
end Go.Proofs.Ytojdocomkhihoaa.Sht
