/- The reference of scale: numbers and scales. -/
import Derived.Test.YthflbbjilebhlaaUr
set_option linter.unusedSimpArgs false
set_option linter.unusedVariables false
namespace Go.Proofs.Ythflbbjilebhlaa
open Go Go.RowKit Go.Shelf Sc

set_option maxRecDepth 100000 in
theorem rin_any (n lo hi : Int) (w : World) : Calls Try.prog 55 #[.int .i64 n, .int .i64 lo, .int .i64 hi] w fun e w' => e = .returned (.bool (inB lo hi n)) ∧ w = w' := by
  obtain ⟨R, hR⟩ : ∃ R, inB lo hi n = R := ⟨_, rfl⟩
  rw [hR]
  unfold inB at hR
  have HR := Lib.hid hR
  clear hR
  go_enter Try.func55, Try.ntmps55
  by_cases h1 : lo ≤ n
  · by_cases h2 : n ≤ hi
    · go_wp2_with fail
      go_ret
      exact ⟨by rw [← HR.out]; simp [h1, h2], rfl⟩
    · have h3 : hi < n := by omega
      go_wp2_with fail
      go_ret
      exact ⟨by rw [← HR.out]; simp [h1, h2], rfl⟩
  · have h3 : n < lo := by omega
    go_wp2_with fail
    go_ret
    exact ⟨by rw [← HR.out]; simp [show ¬ lo ≤ n by omega], rfl⟩
theorem rabs_any (n : Int) (w : World) (h : -1000000000000 ≤ n ∧ n ≤ 1000000000000) : Calls Try.prog 96 #[.int .i64 n] w fun e w' => e = .returned (.int .i64 (absZ n)) ∧ w = w' := by
  obtain ⟨m, hm⟩ : ∃ m, -n = m := ⟨_, rfl⟩
  obtain ⟨R, hR⟩ : ∃ R, absZ n = R := ⟨_, rfl⟩
  have hr : (if n < m then m else n) = R := by rw [← hR, ← hm]; unfold absZ; split <;> omega
  have w1 : IntKind.i64.wrap (-n) = m := by rw [hm, IntKind.wrap_i64] <;> omega
  rw [hR]
  clear hR hm h
  go_enter Try.func96, Try.ntmps96
  go_wp2_with fail
  go_ret
  exact ⟨rfl, rfl⟩
theorem comB_iff (u d : Int) : comB u d = true ↔ ∃ k : Nat, 2 ≤ k ∧ k < 31 ∧ u % (k : Int) = 0 ∧ d % (k : Int) = 0 := by
  unfold comB
  rw [List.any_eq_true]
  constructor
  · rintro ⟨k, hk, h⟩
    simp only [Bool.and_eq_true, decide_eq_true_eq] at h
    exact ⟨k, h.1.1, List.mem_range.1 hk, h.1.2, h.2⟩
  · rintro ⟨k, h1, h2, h3, h4⟩
    exact ⟨k, List.mem_range.2 h2, by simp [h1, h3, h4]⟩
set_option maxRecDepth 100000 in
set_option maxHeartbeats 4000000 in
theorem rcommon_any (u d : Int) (w : World) (hu : 1 ≤ u ∧ u ≤ 30) (hd : 1 ≤ d ∧ d ≤ 30) : Calls Try.prog 86 #[.int .i64 u, .int .i64 d] w fun e w' => e = .returned (.bool (comB u d)) ∧ w = w' := by
  obtain ⟨u1, u9⟩ := hu
  obtain ⟨d1, d9⟩ := hd
  obtain ⟨R, hR⟩ : ∃ R, comB u d = R := ⟨_, rfl⟩
  rw [hR]
  have HR := Lib.hid hR
  clear hR
  go_enter Try.func86, Try.ntmps86
  go_wp2
  go_loopg [5] 29 (fun gh i wr => ∃ (k : Nat), gh + k = 31 ∧ 2 ≤ k ∧ i = .int .i64 (k : Int) ∧ Hid (∀ j : Nat, 2 ≤ j → j < k → ¬ (u % (j : Int) = 0 ∧ d % (j : Int) = 0)) ∧ w = wr)
  case atStart => exact ⟨2, by omega, by omega, rfl, fun j h1 h2 => by omega, rfl⟩
  case round =>
    obtain ⟨k, hk, h2, rfl, HA, rfl⟩ := hrel
    have HNO : Hid ((u < (k : Int) ∨ d < (k : Int)) → R = false) := fun h => by
      rw [← HR.out]
      cases hc : comB u d with
      | false => rfl
      | true =>
        obtain ⟨j, j1, j2, j3, j4⟩ := (comB_iff u d).1 hc
        exfalso
        rcases Nat.lt_or_ge j k with q | q
        · exact HA.out j j1 q ⟨j3, j4⟩
        · rcases h with h | h
          · rw [Int.emod_eq_of_lt (by omega) (by omega)] at j3; omega
          · rw [Int.emod_eq_of_lt (by omega) (by omega)] at j4; omega
    have k31 : k ≤ 31 := by omega
    by_cases a1 : (k : Int) ≤ u
    · by_cases a2 : (k : Int) ≤ d
      · have k0 : ¬ (k : Int) = 0 := by omega
        have k1 : ¬ (k : Int) = -1 := by omega
        obtain ⟨x, hx⟩ : ∃ x, u % (k : Int) = x := ⟨_, rfl⟩
        obtain ⟨y, hy⟩ : ∃ y, d % (k : Int) = y := ⟨_, rfl⟩
        have t1 : u.tmod (k : Int) = x := by rw [Int.tmod_eq_emod_of_nonneg (by omega)]; exact hx
        have t2 : d.tmod (k : Int) = y := by rw [Int.tmod_eq_emod_of_nonneg (by omega)]; exact hy
        have hk30 : k < 31 := by omega
        have HX := Lib.hid hx
        have HY := Lib.hid hy
        clear hx hy
        by_cases b1 : x = 0
        · by_cases b2 : y = 0
          · have hr : R = true := by rw [← HR.out]; exact (comB_iff u d).2 ⟨k, h2, hk30, HX.out.trans b1, HY.out.trans b2⟩
            have HRT := Lib.hid hr
            subst b1 b2
            clear hr
            go_wp2_with fail
            go_ret
            exact ⟨congrArg (fun x => Ending.returned (.bool x)) HRT.out.symm, rfl⟩
          · have HM : Hid (∀ j : Nat, 2 ≤ j → j < k + 1 → ¬ (u % (j : Int) = 0 ∧ d % (j : Int) = 0)) := fun j h1 h3 => by
              rcases Nat.lt_or_ge j k with q | q
              · exact HA.out j h1 q
              · obtain rfl : j = k := by omega
                rintro ⟨_, q2⟩
                exact b2 (HY.out.symm.trans q2)
            subst b1
            have tb : (y == 0) = false := by simp [b2]
            go_wp2_with fail
            go_roundg (gk - 1)
            case measure => omega
            case rel => exact ⟨k + 1, by omega, by omega, by go_num, HM, rfl⟩
        · have HM : Hid (∀ j : Nat, 2 ≤ j → j < k + 1 → ¬ (u % (j : Int) = 0 ∧ d % (j : Int) = 0)) := fun j h1 h3 => by
            rcases Nat.lt_or_ge j k with q | q
            · exact HA.out j h1 q
            · obtain rfl : j = k := by omega
              rintro ⟨q1, _⟩
              exact b1 (HX.out.symm.trans q1)
          have tb : (x == 0) = false := by simp [b1]
          go_wp2_with fail
          go_roundg (gk - 1)
          case measure => omega
          case rel => exact ⟨k + 1, by omega, by omega, by go_num, HM, rfl⟩
      · have a3 : d < (k : Int) := by omega
        have HRF := Lib.hid (HNO.out (.inr a3))
        go_wp2_with fail
        go_ret
        exact ⟨congrArg (fun x => Ending.returned (.bool x)) HRF.out.symm, rfl⟩
    · have a3 : u < (k : Int) := by omega
      have HRF := Lib.hid (HNO.out (.inl a3))
      go_wp2_with fail
      go_ret
      exact ⟨congrArg (fun x => Ending.returned (.bool x)) HRF.out.symm, rfl⟩
end Go.Proofs.Ythflbbjilebhlaa
