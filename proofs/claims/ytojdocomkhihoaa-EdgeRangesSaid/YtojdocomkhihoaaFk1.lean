/- slices.Compare on lists of int. -/
import Derived.Test.YtojdocomkhihoaaEg
set_option linter.unusedSimpArgs false
set_option linter.unusedVariables false
namespace Go.Proofs.Ytojdocomkhihoaa
open Go Go.RowKit

theorem nan_any (a : Int) (w : World) : Calls Try.prog 113 #[.int .i64 a] w fun e w' => e = .returned (.bool false) ∧ w = w' := by
  go_enter Try.func113, Try.ntmps113
  go_wp2
  go_ret
  exact ⟨by simp, rfl⟩
def cmpS (a b : Int) : Int := if a < b then -1 else if b < a then 1 else 0
set_option maxHeartbeats 4000000 in
theorem cmp_any (a b : Int) (w : World) : Calls Try.prog 109 #[.int .i64 a, .int .i64 b] w fun e w' => e = .returned (.int .i64 (cmpS a b)) ∧ w = w' := by
  have HA := Lib.hid (nan_any a)
  have HB := Lib.hid (nan_any b)
  have key : ∀ r, cmpS a b = r → (a < b ∧ r = -1 ∨ ¬ a < b ∧ b < a ∧ r = 1 ∨ ¬ a < b ∧ ¬ b < a ∧ r = 0) := by
    intro r h
    unfold cmpS at h
    by_cases h1 : a < b
    · simp [h1] at h; omega
    · by_cases h2 : b < a
      · simp [h1, h2] at h; omega
      · simp [h1, h2] at h; omega
  obtain ⟨r, hr⟩ : ∃ r, cmpS a b = r := ⟨_, rfl⟩
  have hk := key r hr
  rw [hr]
  clear key hr
  rcases hk with ⟨h1, rfl⟩ | ⟨h1, h2, rfl⟩ | ⟨h1, h2, rfl⟩
  all_goals
    go_enter Try.func109, Try.ntmps109
    go_wp2_with fail
    refine (HA.out _).mono ?_
    rintro e wg ⟨rfl, rfl⟩
    go_wp2_with fail
    refine (HB.out _).mono ?_
    rintro e wg ⟨rfl, rfl⟩
    clear HA HB
    go_wp2
    go_ret
    exact ⟨rfl, rfl⟩
/-- Which of two lists comes first. -/
def cmpL : List Int → List Int → Int
  | [], [] => 0
  | [], _ :: _ => -1
  | _ :: _, [] => 1
  | a :: s, b :: t => if cmpS a b = 0 then cmpL s t else cmpS a b
theorem cmpL_drop (s t : List Int) (k : Nat) (hs : k < s.length) (ht : k < t.length) : cmpL (s.drop k) (t.drop k) = if cmpS s[k] t[k] = 0 then cmpL (s.drop (k + 1)) (t.drop (k + 1)) else cmpS s[k] t[k] := by
  rw [List.drop_eq_getElem_cons hs, List.drop_eq_getElem_cons ht]
  rfl
theorem cmpL_long (s t : List Int) (k : Nat) (hs : k < s.length) (ht : t.length ≤ k) : cmpL (s.drop k) (t.drop k) = 1 := by
  rw [List.drop_eq_getElem_cons hs, List.drop_eq_nil_of_le ht]
  rfl
theorem cmpL_end (s t : List Int) (hs : s.length < t.length) : cmpL (s.drop s.length) (t.drop s.length) = -1 := by
  rw [List.drop_eq_nil_of_le (Nat.le_refl _), List.drop_eq_getElem_cons hs]
  rfl
theorem cmpL_same (s t : List Int) (hs : t.length ≤ s.length) : cmpL (s.drop s.length) (t.drop s.length) = 0 := by
  rw [List.drop_eq_nil_of_le (Nat.le_refl _), List.drop_eq_nil_of_le hs]
  rfl
set_option maxHeartbeats 4000000 in
theorem compare_any (s t : List Int) (u v : Value) (w : World) (hu : IntsAt w u s) (hv : IntsAt w v t) :
    Calls Try.prog 96 #[u, v] w fun e w' => e = .returned (.int .i64 (cmpL s t)) ∧ w = w' := by
  obtain ⟨hm, a, cap, rfl, _, hc⟩ := hu
  obtain ⟨hm2, a2, cap2, rfl, _, hc2⟩ := hv
  have HC := Lib.hid hc
  have HC2 := Lib.hid hc2
  clear hc hc2
  obtain ⟨R, hR⟩ : ∃ R, cmpL s t = R := ⟨_, rfl⟩
  have HR0 : Hid (cmpL (s.drop 0) (t.drop 0) = R) := hR
  rw [hR]
  clear hR
  obtain ⟨n, hn⟩ : ∃ n, s.length = n := ⟨_, rfl⟩
  obtain ⟨m, hm'⟩ : ∃ m, t.length = m := ⟨_, rfl⟩
  have HN := Lib.hid hn
  have HM := Lib.hid hm'
  rw [hn] at hm ⊢
  rw [hm'] at hm2 ⊢
  clear hn hm'
  go_enter Try.func96, Try.ntmps96
  go_wp2_with fail
  go_loop [11] (fun i => ∃ k : Nat, k ≤ n ∧ k ≤ m ∧ i = .int .i64 k ∧ Hid (cmpL (s.drop k) (t.drop k) = R)) (fun i => n - (intOf i).toNat)
  case atStart => exact ⟨0, Nat.zero_le _, Nat.zero_le _, rfl, HR0⟩
  case round =>
    obtain ⟨k, hk, hkm, rfl, HR⟩ := hrel
    clear HR0
    by_cases hlt : k < n
    · have kI : (k : Int) < (n : Int) := by omega
      obtain ⟨b, o, rfl, hd⟩ := HC.out (by intro e; have := HN.out; simp [e] at this; omega)
      have hck := hd k (by rw [HN.out]; exact hlt)
      have HS : Hid (k < s.length) := by show _; rw [HN.out]; exact hlt
      by_cases hlt2 : k < m
      · have kJ : (k : Int) < (m : Int) := by omega
        have kJ' : ¬ (m : Int) ≤ (k : Int) := by omega
        obtain ⟨b2, o2, rfl, hd2⟩ := HC2.out (by intro e; have := HM.out; simp [e] at this; omega)
        have hck2 := hd2 k (by rw [HM.out]; exact hlt2)
        have hT : k < t.length := by rw [HM.out]; exact hlt2
        have hD := cmpL_drop s t k HS.out hT
        rw [HR.out] at hD
        have HD := Lib.hid hD
        clear hd hd2 hD HR HC HC2
        generalize s[k] = x at *
        generalize t[k] = y at *
        have HCM := Lib.hid (cmp_any x y)
        generalize cmpS x y = c at *
        clear hT
        go_wp2_with fail
        refine (HCM.out _).mono ?_
        rintro e wg ⟨rfl, rfl⟩
        clear HCM
        by_cases h0 : c = 0
        · subst h0
          have HR2 : Hid (cmpL (s.drop (k + 1)) (t.drop (k + 1)) = R) := by have h := HD.out; rw [if_pos rfl] at h; exact h.symm
          clear HD
          go_wp2
          go_round
          case rel => exact ⟨k + 1, by omega, by omega, by go_num, HR2⟩
          case measure => simp [intOf]; omega
        · have hcr : R = c := by have h := HD.out; rw [if_neg h0] at h; exact h
          subst hcr
          clear HD
          go_wp2
          go_ret
          exact ⟨rfl, rfl⟩
      · obtain rfl : k = m := by omega
        have kJ : (k : Int) ≤ (k : Int) := by omega
        have hR1 : R = 1 := by rw [← HR.out]; exact cmpL_long s t k HS.out (by rw [HM.out]; exact Nat.le_refl _)
        subst hR1
        clear hd HR HC HC2
        go_wp2
        go_ret
        exact ⟨rfl, rfl⟩
    · obtain rfl : k = n := by omega
      have kI : ¬ (k : Int) < (k : Int) := by omega
      by_cases hlt2 : k < m
      · have kJ : (k : Int) < (m : Int) := by omega
        have hR1 : R = -1 := by
          have h := HR.out
          rw [← HN.out] at h
          rw [← h]; exact cmpL_end s t (by rw [HN.out, HM.out]; exact hlt2)
        subst hR1
        clear HR HC HC2
        go_wp2
        go_ret
        exact ⟨rfl, rfl⟩
      · have kJ : ¬ (k : Int) < (m : Int) := by omega
        have hR1 : R = 0 := by
          have h := HR.out
          rw [← HN.out] at h
          rw [← h]; exact cmpL_same s t (by rw [HN.out, HM.out]; omega)
        subst hR1
        clear HR HC HC2
        go_wp2
        go_ret
        exact ⟨rfl, rfl⟩
end Go.Proofs.Ytojdocomkhihoaa
