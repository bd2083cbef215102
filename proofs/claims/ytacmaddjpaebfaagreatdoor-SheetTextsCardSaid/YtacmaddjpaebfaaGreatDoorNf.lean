/- The error of a note: noteFault of package sheet. -/
import Derived.Test.YtacmaddjpaebfaaGreatDoorSay
set_option linter.unusedSimpArgs false
set_option linter.unusedVariables false
namespace Go.Proofs.YtacmaddjpaebfaaGreatDoor
open Go Go.RowKit Hs

set_option maxHeartbeats 2000000 in
theorem noteFault_1 (iv : Int) (pa qa : Option Addr) (pn pc qn qc : Nat) (wd : Int) (a b lo hi : Int) (w : World) (hiv : 1 ≤ iv) (hiv2 : iv ≤ 1000) (hp1 : 1 ≤ pn) (hpn : pn ≤ 8) :
    Calls Tryz.prog 58 #[lookedV iv (.slice pa pn pc) (.slice qa qn qc) wd, noteV ⟨1, a, b, lo, hi⟩] w fun e w' => e = .returned (.int .i64 (noteErr iv pn ⟨1, a, b, lo, hi⟩)) ∧ Below w.heap.size w w' := by
  go_enter Tryz.func58, Tryz.ntmps58
  go_wp2_with fail
  refine (saying_any _ _ _ _ _ _ _ _ ⟨1, a, b, lo, hi⟩ _).mono ?_
  rintro e w1 ⟨rfl, hb⟩
  rw [sayV_1]
  have hA : w1.heap[w.heap.size]? = some (.cells #[.int .i64 iv, .slice pa pn pc, .slice qa qn qc, .int .i64 wd] 80 (0, 0)) := (hb.block _ (by simp; omega)).trans (heap_alloc2_old _ _ _)
  have hN : w1.heap[w.heap.size + 1]? = some (.cells #[.int .i64 1, .int .i64 a, .int .i64 b, .int .i64 lo, .int .i64 hi] 67 (0, 0)) := (hb.block _ (by simp)).trans (heap_alloc2_new _ _ _)
  have hB : Below w.heap.size w w1 := (((Below.refl _ _).alloc (Nat.le_refl _) _).alloc (by simp) _).trans (hb.mono (by simp; omega))
  have hs := hb.size
  have a1 := cellOf hA 1 _ rfl
  have n0 := cellOf hN 0 _ rfl
  have n1 := cellOf hN 1 _ rfl
  have n2 := cellOf hN 2 _ rfl
  have n3 := cellOf hN 3 _ rfl
  have n4 := cellOf hN 4 _ rfl
  simp only [World.size_alloc] at hs
  have s0 : w.heap.size < w1.heap.size := by omega
  have s1 : w.heap.size + 1 < w1.heap.size := by omega
  have s2 : w.heap.size < w1.heap.size + 1 := by omega
  have s3 : w.heap.size < w1.heap.size + 1 + 1 := by omega
  have s4 : w.heap.size < w1.heap.size + 1 + 1 + 1 := by omega
  have s5 : w.heap.size < w1.heap.size + 1 + 1 + 1 + 1 := by omega
  clear hA hN hb
  cases h1 : withinB 0 (pn - 1) [a, b]
  · have HR := Lib.hid (ne_4 iv pn ⟨1, a, b, lo, hi⟩ rfl h1)
    go_wp2_with (first | (go_at_call 54; refine (within_2 _ _ _ _ _ _ _ (by simp)).mono ?_; rintro e w' ⟨rfl, rfl⟩) | (go_at_call 188; refine (spotOver 1 a b lo hi _).mono ?_; rintro e w' ⟨rfl, rfl⟩) | (go_at_call 187; refine (spotEnds 1 a b lo hi _).mono ?_; rintro e w' ⟨rfl, rfl⟩))
    go_ret
    exact ⟨by rw [HR.out]; rfl, by go_grown⟩
  · have H1 := Lib.hid h1
    obtain ⟨⟨x1, x2⟩, x3, x4⟩ := (within2 _ _ _ _).1 h1
    have t8 : ((8 : Int) == a) = false := by simp; omega
    by_cases hz : b = 0
    · have tz : (b != 0) = false := by simp [hz]
      have HZ := Lib.hid hz
      have N2 : Hid (¬ (over ⟨1, a, b, lo, hi⟩ = a ∨ over ⟨1, a, b, lo, hi⟩ = 8 ∧ b ≠ 0)) := by
        have e : over ⟨1, a, b, lo, hi⟩ = 8 := rfl
        show ¬ _
        rw [e, hz]; omega
      clear hz
      cases h2 : withinB 0 9000 [lo, hi]
      · have HR := Lib.hid (ne_7 iv pn ⟨1, a, b, lo, hi⟩ rfl h1 N2.out h2)
        go_wp2_with (first | (go_at_call 54; refine (within_2 _ _ _ _ _ _ _ (by simp)).mono ?_; rintro e w' ⟨rfl, rfl⟩) | (go_at_call 188; refine (spotOver 1 a b lo hi _).mono ?_; rintro e w' ⟨rfl, rfl⟩) | (go_at_call 187; refine (spotEnds 1 a b lo hi _).mono ?_; rintro e w' ⟨rfl, rfl⟩))
        go_ret
        exact ⟨by rw [HR.out]; rfl, by go_grown⟩
      · by_cases h3 : hi < lo
        · have HR := Lib.hid (ne_2b iv pn ⟨1, a, b, lo, hi⟩ rfl h1 N2.out h2 (.inl h3))
          go_wp2_with (first | (go_at_call 54; refine (within_2 _ _ _ _ _ _ _ (by simp)).mono ?_; rintro e w' ⟨rfl, rfl⟩) | (go_at_call 188; refine (spotOver 1 a b lo hi _).mono ?_; rintro e w' ⟨rfl, rfl⟩) | (go_at_call 187; refine (spotEnds 1 a b lo hi _).mono ?_; rintro e w' ⟨rfl, rfl⟩))
          go_ret
          exact ⟨by rw [HR.out]; rfl, by go_grown⟩
        · have HR := Lib.hid (ne_0 iv pn ⟨1, a, b, lo, hi⟩ rfl h1 N2.out h2 (by rintro (h | ⟨h, _⟩); exact h3 h; exact absurd h (by simp)))
          go_wp2_with (first | (go_at_call 54; refine (within_2 _ _ _ _ _ _ _ (by simp)).mono ?_; rintro e w' ⟨rfl, rfl⟩) | (go_at_call 188; refine (spotOver 1 a b lo hi _).mono ?_; rintro e w' ⟨rfl, rfl⟩) | (go_at_call 187; refine (spotEnds 1 a b lo hi _).mono ?_; rintro e w' ⟨rfl, rfl⟩))
          go_ret
          exact ⟨by rw [HR.out]; rfl, by go_grown⟩
    · have tz : (b != 0) = true := by simp [hz]
      have HR := Lib.hid (ne_2a iv pn ⟨1, a, b, lo, hi⟩ rfl h1 (.inr ⟨rfl, hz⟩))
      clear hz
      go_wp2_with (first | (go_at_call 54; refine (within_2 _ _ _ _ _ _ _ (by simp)).mono ?_; rintro e w' ⟨rfl, rfl⟩) | (go_at_call 188; refine (spotOver 1 a b lo hi _).mono ?_; rintro e w' ⟨rfl, rfl⟩) | (go_at_call 187; refine (spotEnds 1 a b lo hi _).mono ?_; rintro e w' ⟨rfl, rfl⟩))
      go_ret
      exact ⟨by rw [HR.out]; rfl, by go_grown⟩

set_option maxHeartbeats 2000000 in
theorem noteFault_2 (iv : Int) (pa qa : Option Addr) (pn pc qn qc : Nat) (wd : Int) (a b lo hi : Int) (w : World) (hiv : 1 ≤ iv) (hiv2 : iv ≤ 1000) (hp1 : 1 ≤ pn) (hpn : pn ≤ 8) :
    Calls Tryz.prog 58 #[lookedV iv (.slice pa pn pc) (.slice qa qn qc) wd, noteV ⟨2, a, b, lo, hi⟩] w fun e w' => e = .returned (.int .i64 (noteErr iv pn ⟨2, a, b, lo, hi⟩)) ∧ Below w.heap.size w w' := by
  go_enter Tryz.func58, Tryz.ntmps58
  go_wp2_with fail
  refine (saying_any _ _ _ _ _ _ _ _ ⟨2, a, b, lo, hi⟩ _).mono ?_
  rintro e w1 ⟨rfl, hb⟩
  rw [sayV_2]
  have hA : w1.heap[w.heap.size]? = some (.cells #[.int .i64 iv, .slice pa pn pc, .slice qa qn qc, .int .i64 wd] 80 (0, 0)) := (hb.block _ (by simp; omega)).trans (heap_alloc2_old _ _ _)
  have hN : w1.heap[w.heap.size + 1]? = some (.cells #[.int .i64 2, .int .i64 a, .int .i64 b, .int .i64 lo, .int .i64 hi] 67 (0, 0)) := (hb.block _ (by simp)).trans (heap_alloc2_new _ _ _)
  have hB : Below w.heap.size w w1 := (((Below.refl _ _).alloc (Nat.le_refl _) _).alloc (by simp) _).trans (hb.mono (by simp; omega))
  have hs := hb.size
  have a1 := cellOf hA 1 _ rfl
  have n0 := cellOf hN 0 _ rfl
  have n1 := cellOf hN 1 _ rfl
  have n2 := cellOf hN 2 _ rfl
  have n3 := cellOf hN 3 _ rfl
  have n4 := cellOf hN 4 _ rfl
  simp only [World.size_alloc] at hs
  have s0 : w.heap.size < w1.heap.size := by omega
  have s1 : w.heap.size + 1 < w1.heap.size := by omega
  have s2 : w.heap.size < w1.heap.size + 1 := by omega
  have s3 : w.heap.size < w1.heap.size + 1 + 1 := by omega
  have s4 : w.heap.size < w1.heap.size + 1 + 1 + 1 := by omega
  have s5 : w.heap.size < w1.heap.size + 1 + 1 + 1 + 1 := by omega
  clear hA hN hb
  cases h1 : withinB 0 (pn - 1) [a, b]
  · have HR := Lib.hid (ne_4 iv pn ⟨2, a, b, lo, hi⟩ rfl h1)
    go_wp2_with (first | (go_at_call 54; refine (within_2 _ _ _ _ _ _ _ (by simp)).mono ?_; rintro e w' ⟨rfl, rfl⟩) | (go_at_call 188; refine (spotOver 2 a b lo hi _).mono ?_; rintro e w' ⟨rfl, rfl⟩) | (go_at_call 190; refine (contourEnds 2 a b lo hi iv _ hiv hiv2).mono ?_; rintro e w' ⟨rfl, rfl⟩))
    go_ret
    exact ⟨by rw [HR.out]; rfl, by go_grown⟩
  · have H1 := Lib.hid h1
    obtain ⟨⟨x1, x2⟩, x3, x4⟩ := (within2 _ _ _ _).1 h1
    have t8 : ((8 : Int) == a) = false := by simp; omega
    by_cases hz : b = 0
    · have tz : (b != 0) = false := by simp [hz]
      have HZ := Lib.hid hz
      have N2 : Hid (¬ (over ⟨2, a, b, lo, hi⟩ = a ∨ over ⟨2, a, b, lo, hi⟩ = 8 ∧ b ≠ 0)) := by
        have e : over ⟨2, a, b, lo, hi⟩ = 8 := rfl
        show ¬ _
        rw [e, hz]; omega
      clear hz
      cases h2 : withinB 0 (9000 / iv) [lo, hi]
      · have HR := Lib.hid (ne_7 iv pn ⟨2, a, b, lo, hi⟩ rfl h1 N2.out h2)
        go_wp2_with (first | (go_at_call 54; refine (within_2 _ _ _ _ _ _ _ (by simp)).mono ?_; rintro e w' ⟨rfl, rfl⟩) | (go_at_call 188; refine (spotOver 2 a b lo hi _).mono ?_; rintro e w' ⟨rfl, rfl⟩) | (go_at_call 190; refine (contourEnds 2 a b lo hi iv _ hiv hiv2).mono ?_; rintro e w' ⟨rfl, rfl⟩))
        go_ret
        exact ⟨by rw [HR.out]; rfl, by go_grown⟩
      · by_cases h3 : hi < lo
        · have HR := Lib.hid (ne_2b iv pn ⟨2, a, b, lo, hi⟩ rfl h1 N2.out h2 (.inl h3))
          go_wp2_with (first | (go_at_call 54; refine (within_2 _ _ _ _ _ _ _ (by simp)).mono ?_; rintro e w' ⟨rfl, rfl⟩) | (go_at_call 188; refine (spotOver 2 a b lo hi _).mono ?_; rintro e w' ⟨rfl, rfl⟩) | (go_at_call 190; refine (contourEnds 2 a b lo hi iv _ hiv hiv2).mono ?_; rintro e w' ⟨rfl, rfl⟩))
          go_ret
          exact ⟨by rw [HR.out]; rfl, by go_grown⟩
        · by_cases h4 : lo = hi
          · have HR := Lib.hid (ne_2b iv pn ⟨2, a, b, lo, hi⟩ rfl h1 N2.out h2 (.inr ⟨rfl, h4⟩))
            have t4 : (lo == hi) = true := by simp [h4]
            clear h4
            go_wp2_with (first | (go_at_call 54; refine (within_2 _ _ _ _ _ _ _ (by simp)).mono ?_; rintro e w' ⟨rfl, rfl⟩) | (go_at_call 188; refine (spotOver 2 a b lo hi _).mono ?_; rintro e w' ⟨rfl, rfl⟩) | (go_at_call 190; refine (contourEnds 2 a b lo hi iv _ hiv hiv2).mono ?_; rintro e w' ⟨rfl, rfl⟩))
            go_ret
            exact ⟨by rw [HR.out]; rfl, by go_grown⟩
          · have HR := Lib.hid (ne_0 iv pn ⟨2, a, b, lo, hi⟩ rfl h1 N2.out h2 (by rintro (h | ⟨_, h⟩); exact h3 h; exact h4 h))
            have t4 : (lo == hi) = false := by simp [h4]
            clear h4
            go_wp2_with (first | (go_at_call 54; refine (within_2 _ _ _ _ _ _ _ (by simp)).mono ?_; rintro e w' ⟨rfl, rfl⟩) | (go_at_call 188; refine (spotOver 2 a b lo hi _).mono ?_; rintro e w' ⟨rfl, rfl⟩) | (go_at_call 190; refine (contourEnds 2 a b lo hi iv _ hiv hiv2).mono ?_; rintro e w' ⟨rfl, rfl⟩))
            go_ret
            exact ⟨by rw [HR.out]; rfl, by go_grown⟩
    · have tz : (b != 0) = true := by simp [hz]
      have HR := Lib.hid (ne_2a iv pn ⟨2, a, b, lo, hi⟩ rfl h1 (.inr ⟨rfl, hz⟩))
      clear hz
      go_wp2_with (first | (go_at_call 54; refine (within_2 _ _ _ _ _ _ _ (by simp)).mono ?_; rintro e w' ⟨rfl, rfl⟩) | (go_at_call 188; refine (spotOver 2 a b lo hi _).mono ?_; rintro e w' ⟨rfl, rfl⟩) | (go_at_call 190; refine (contourEnds 2 a b lo hi iv _ hiv hiv2).mono ?_; rintro e w' ⟨rfl, rfl⟩))
      go_ret
      exact ⟨by rw [HR.out]; rfl, by go_grown⟩

set_option maxHeartbeats 2000000 in
theorem noteFault_3 (iv : Int) (pa qa : Option Addr) (pn pc qn qc : Nat) (wd : Int) (a b lo hi : Int) (w : World) (hiv : 1 ≤ iv) (hiv2 : iv ≤ 1000) (hp1 : 1 ≤ pn) (hpn : pn ≤ 8) :
    Calls Tryz.prog 58 #[lookedV iv (.slice pa pn pc) (.slice qa qn qc) wd, noteV ⟨3, a, b, lo, hi⟩] w fun e w' => e = .returned (.int .i64 (noteErr iv pn ⟨3, a, b, lo, hi⟩)) ∧ Below w.heap.size w w' := by
  go_enter Tryz.func58, Tryz.ntmps58
  go_wp2_with fail
  refine (saying_any _ _ _ _ _ _ _ _ ⟨3, a, b, lo, hi⟩ _).mono ?_
  rintro e w1 ⟨rfl, hb⟩
  rw [sayV_3]
  have hA : w1.heap[w.heap.size]? = some (.cells #[.int .i64 iv, .slice pa pn pc, .slice qa qn qc, .int .i64 wd] 80 (0, 0)) := (hb.block _ (by simp; omega)).trans (heap_alloc2_old _ _ _)
  have hN : w1.heap[w.heap.size + 1]? = some (.cells #[.int .i64 3, .int .i64 a, .int .i64 b, .int .i64 lo, .int .i64 hi] 67 (0, 0)) := (hb.block _ (by simp)).trans (heap_alloc2_new _ _ _)
  have hB : Below w.heap.size w w1 := (((Below.refl _ _).alloc (Nat.le_refl _) _).alloc (by simp) _).trans (hb.mono (by simp; omega))
  have hs := hb.size
  have a1 := cellOf hA 1 _ rfl
  have n0 := cellOf hN 0 _ rfl
  have n1 := cellOf hN 1 _ rfl
  have n2 := cellOf hN 2 _ rfl
  have n3 := cellOf hN 3 _ rfl
  have n4 := cellOf hN 4 _ rfl
  simp only [World.size_alloc] at hs
  have s0 : w.heap.size < w1.heap.size := by omega
  have s1 : w.heap.size + 1 < w1.heap.size := by omega
  have s2 : w.heap.size < w1.heap.size + 1 := by omega
  have s3 : w.heap.size < w1.heap.size + 1 + 1 := by omega
  have s4 : w.heap.size < w1.heap.size + 1 + 1 + 1 := by omega
  have s5 : w.heap.size < w1.heap.size + 1 + 1 + 1 + 1 := by omega
  clear hA hN hb
  cases h1 : withinB 0 (pn - 1) [a, b]
  · have HR := Lib.hid (ne_4 iv pn ⟨3, a, b, lo, hi⟩ rfl h1)
    go_wp2_with (first | (go_at_call 54; refine (within_2 _ _ _ _ _ _ _ (by simp)).mono ?_; rintro e w' ⟨rfl, rfl⟩) | (go_at_call 193; refine (slopeOver 3 a b lo hi _).mono ?_; rintro e w' ⟨rfl, rfl⟩) | (go_at_call 195; refine (lakeEnds 3 a b lo hi _).mono ?_; rintro e w' ⟨rfl, rfl⟩))
    go_ret
    exact ⟨by rw [HR.out]; rfl, by go_grown⟩
  · have H1 := Lib.hid h1
    obtain ⟨⟨x1, x2⟩, x3, x4⟩ := (within2 _ _ _ _).1 h1
    have t8 : (b == 8) = false := by simp; omega
    by_cases hz : b = a
    case neg =>
      have tz : (b == a) = false := by simp [hz]
      have N2 : Hid (¬ (over ⟨3, a, b, lo, hi⟩ = a ∨ over ⟨3, a, b, lo, hi⟩ = 8 ∧ b ≠ 0)) := by
        have e : over ⟨3, a, b, lo, hi⟩ = b := rfl
        show ¬ _
        rw [e]; omega
      clear hz
      cases h2 : withinB 0 0 [lo, hi]
      · have HR := Lib.hid (ne_7 iv pn ⟨3, a, b, lo, hi⟩ rfl h1 N2.out h2)
        go_wp2_with (first | (go_at_call 54; refine (within_2 _ _ _ _ _ _ _ (by simp)).mono ?_; rintro e w' ⟨rfl, rfl⟩) | (go_at_call 193; refine (slopeOver 3 a b lo hi _).mono ?_; rintro e w' ⟨rfl, rfl⟩) | (go_at_call 195; refine (lakeEnds 3 a b lo hi _).mono ?_; rintro e w' ⟨rfl, rfl⟩))
        go_ret
        exact ⟨by rw [HR.out]; rfl, by go_grown⟩
      · by_cases h3 : hi < lo
        · have HR := Lib.hid (ne_2b iv pn ⟨3, a, b, lo, hi⟩ rfl h1 N2.out h2 (.inl h3))
          go_wp2_with (first | (go_at_call 54; refine (within_2 _ _ _ _ _ _ _ (by simp)).mono ?_; rintro e w' ⟨rfl, rfl⟩) | (go_at_call 193; refine (slopeOver 3 a b lo hi _).mono ?_; rintro e w' ⟨rfl, rfl⟩) | (go_at_call 195; refine (lakeEnds 3 a b lo hi _).mono ?_; rintro e w' ⟨rfl, rfl⟩))
          go_ret
          exact ⟨by rw [HR.out]; rfl, by go_grown⟩
        · have HR := Lib.hid (ne_0 iv pn ⟨3, a, b, lo, hi⟩ rfl h1 N2.out h2 (by rintro (h | ⟨h, _⟩); exact h3 h; exact absurd h (by simp)))
          go_wp2_with (first | (go_at_call 54; refine (within_2 _ _ _ _ _ _ _ (by simp)).mono ?_; rintro e w' ⟨rfl, rfl⟩) | (go_at_call 193; refine (slopeOver 3 a b lo hi _).mono ?_; rintro e w' ⟨rfl, rfl⟩) | (go_at_call 195; refine (lakeEnds 3 a b lo hi _).mono ?_; rintro e w' ⟨rfl, rfl⟩))
          go_ret
          exact ⟨by rw [HR.out]; rfl, by go_grown⟩
    case pos =>
      have tz : (b == a) = true := by simp [hz]
      have HR := Lib.hid (ne_2a iv pn ⟨3, a, b, lo, hi⟩ rfl h1 (.inl hz))
      clear hz
      go_wp2_with (first | (go_at_call 54; refine (within_2 _ _ _ _ _ _ _ (by simp)).mono ?_; rintro e w' ⟨rfl, rfl⟩) | (go_at_call 193; refine (slopeOver 3 a b lo hi _).mono ?_; rintro e w' ⟨rfl, rfl⟩) | (go_at_call 195; refine (lakeEnds 3 a b lo hi _).mono ?_; rintro e w' ⟨rfl, rfl⟩))
      go_ret
      exact ⟨by rw [HR.out]; rfl, by go_grown⟩

set_option maxHeartbeats 2000000 in
theorem noteFault_4 (iv : Int) (pa qa : Option Addr) (pn pc qn qc : Nat) (wd : Int) (a b lo hi : Int) (w : World) (hiv : 1 ≤ iv) (hiv2 : iv ≤ 1000) (hp1 : 1 ≤ pn) (hpn : pn ≤ 8) :
    Calls Tryz.prog 58 #[lookedV iv (.slice pa pn pc) (.slice qa qn qc) wd, noteV ⟨4, a, b, lo, hi⟩] w fun e w' => e = .returned (.int .i64 (noteErr iv pn ⟨4, a, b, lo, hi⟩)) ∧ Below w.heap.size w w' := by
  go_enter Tryz.func58, Tryz.ntmps58
  go_wp2_with fail
  refine (saying_any _ _ _ _ _ _ _ _ ⟨4, a, b, lo, hi⟩ _).mono ?_
  rintro e w1 ⟨rfl, hb⟩
  rw [sayV_4]
  have hA : w1.heap[w.heap.size]? = some (.cells #[.int .i64 iv, .slice pa pn pc, .slice qa qn qc, .int .i64 wd] 80 (0, 0)) := (hb.block _ (by simp; omega)).trans (heap_alloc2_old _ _ _)
  have hN : w1.heap[w.heap.size + 1]? = some (.cells #[.int .i64 4, .int .i64 a, .int .i64 b, .int .i64 lo, .int .i64 hi] 67 (0, 0)) := (hb.block _ (by simp)).trans (heap_alloc2_new _ _ _)
  have hB : Below w.heap.size w w1 := (((Below.refl _ _).alloc (Nat.le_refl _) _).alloc (by simp) _).trans (hb.mono (by simp; omega))
  have hs := hb.size
  have a1 := cellOf hA 1 _ rfl
  have n0 := cellOf hN 0 _ rfl
  have n1 := cellOf hN 1 _ rfl
  have n2 := cellOf hN 2 _ rfl
  have n3 := cellOf hN 3 _ rfl
  have n4 := cellOf hN 4 _ rfl
  simp only [World.size_alloc] at hs
  have s0 : w.heap.size < w1.heap.size := by omega
  have s1 : w.heap.size + 1 < w1.heap.size := by omega
  have s2 : w.heap.size < w1.heap.size + 1 := by omega
  have s3 : w.heap.size < w1.heap.size + 1 + 1 := by omega
  have s4 : w.heap.size < w1.heap.size + 1 + 1 + 1 := by omega
  have s5 : w.heap.size < w1.heap.size + 1 + 1 + 1 + 1 := by omega
  clear hA hN hb
  cases h1 : withinB 0 (pn - 1) [a, b]
  · have HR := Lib.hid (ne_4 iv pn ⟨4, a, b, lo, hi⟩ rfl h1)
    go_wp2_with (first | (go_at_call 54; refine (within_2 _ _ _ _ _ _ _ (by simp)).mono ?_; rintro e w' ⟨rfl, rfl⟩) | (go_at_call 193; refine (slopeOver 4 a b lo hi _).mono ?_; rintro e w' ⟨rfl, rfl⟩) | (go_at_call 192; refine (slopeEnds 4 a b lo hi _).mono ?_; rintro e w' ⟨rfl, rfl⟩))
    go_ret
    exact ⟨by rw [HR.out]; rfl, by go_grown⟩
  · have H1 := Lib.hid h1
    obtain ⟨⟨x1, x2⟩, x3, x4⟩ := (within2 _ _ _ _).1 h1
    have t8 : (b == 8) = false := by simp; omega
    by_cases hz : b = a
    case neg =>
      have tz : (b == a) = false := by simp [hz]
      have N2 : Hid (¬ (over ⟨4, a, b, lo, hi⟩ = a ∨ over ⟨4, a, b, lo, hi⟩ = 8 ∧ b ≠ 0)) := by
        have e : over ⟨4, a, b, lo, hi⟩ = b := rfl
        show ¬ _
        rw [e]; omega
      clear hz
      cases h2 : withinB (-9000) 9000 [lo, hi]
      · have HR := Lib.hid (ne_7 iv pn ⟨4, a, b, lo, hi⟩ rfl h1 N2.out h2)
        go_wp2_with (first | (go_at_call 54; refine (within_2 _ _ _ _ _ _ _ (by simp)).mono ?_; rintro e w' ⟨rfl, rfl⟩) | (go_at_call 193; refine (slopeOver 4 a b lo hi _).mono ?_; rintro e w' ⟨rfl, rfl⟩) | (go_at_call 192; refine (slopeEnds 4 a b lo hi _).mono ?_; rintro e w' ⟨rfl, rfl⟩))
        go_ret
        exact ⟨by rw [HR.out]; rfl, by go_grown⟩
      · by_cases h3 : hi < lo
        · have HR := Lib.hid (ne_2b iv pn ⟨4, a, b, lo, hi⟩ rfl h1 N2.out h2 (.inl h3))
          go_wp2_with (first | (go_at_call 54; refine (within_2 _ _ _ _ _ _ _ (by simp)).mono ?_; rintro e w' ⟨rfl, rfl⟩) | (go_at_call 193; refine (slopeOver 4 a b lo hi _).mono ?_; rintro e w' ⟨rfl, rfl⟩) | (go_at_call 192; refine (slopeEnds 4 a b lo hi _).mono ?_; rintro e w' ⟨rfl, rfl⟩))
          go_ret
          exact ⟨by rw [HR.out]; rfl, by go_grown⟩
        · have HR := Lib.hid (ne_0 iv pn ⟨4, a, b, lo, hi⟩ rfl h1 N2.out h2 (by rintro (h | ⟨h, _⟩); exact h3 h; exact absurd h (by simp)))
          go_wp2_with (first | (go_at_call 54; refine (within_2 _ _ _ _ _ _ _ (by simp)).mono ?_; rintro e w' ⟨rfl, rfl⟩) | (go_at_call 193; refine (slopeOver 4 a b lo hi _).mono ?_; rintro e w' ⟨rfl, rfl⟩) | (go_at_call 192; refine (slopeEnds 4 a b lo hi _).mono ?_; rintro e w' ⟨rfl, rfl⟩))
          go_ret
          exact ⟨by rw [HR.out]; rfl, by go_grown⟩
    case pos =>
      have tz : (b == a) = true := by simp [hz]
      have HR := Lib.hid (ne_2a iv pn ⟨4, a, b, lo, hi⟩ rfl h1 (.inl hz))
      clear hz
      go_wp2_with (first | (go_at_call 54; refine (within_2 _ _ _ _ _ _ _ (by simp)).mono ?_; rintro e w' ⟨rfl, rfl⟩) | (go_at_call 193; refine (slopeOver 4 a b lo hi _).mono ?_; rintro e w' ⟨rfl, rfl⟩) | (go_at_call 192; refine (slopeEnds 4 a b lo hi _).mono ?_; rintro e w' ⟨rfl, rfl⟩))
      go_ret
      exact ⟨by rw [HR.out]; rfl, by go_grown⟩

end Go.Proofs.YtacmaddjpaebfaaGreatDoor
