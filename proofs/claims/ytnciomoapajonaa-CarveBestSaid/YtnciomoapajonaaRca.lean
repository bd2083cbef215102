/- The reference of package carve: in, Check; valid. -/
import Derived.Test.YtnciomoapajonaaCvc
set_option linter.unusedSimpArgs false
set_option linter.unusedVariables false
namespace Go.Proofs.Ytnciomoapajonaa
open Go Go.RowKit Cv

theorem rin_any (n lo hi : Int) (w : World) :
    Calls Try.prog 51 #[.int .i64 n, .int .i64 lo, .int .i64 hi] w fun e w' => e = .returned (.bool (okIn lo hi n)) ∧ w = w' := by
  by_cases h1 : lo ≤ n
  · by_cases h2 : n ≤ hi
    · have h3 : okIn lo hi n = true := by simp [okIn, h1, h2]
      rw [h3]
      clear h3
      go_enter Try.func51, Try.ntmps51
      go_wp2
      go_ret
      exact ⟨rfl, rfl⟩
    · have h3 : okIn lo hi n = false := by simp [okIn, h2]
      have h4 : decide (n ≤ hi) = false := by simp [h2]
      rw [h3]
      clear h3 h2
      go_enter Try.func51, Try.ntmps51
      go_wp2
      go_ret
      exact ⟨rfl, rfl⟩
  · have h3 : okIn lo hi n = false := by simp [okIn, h1]
    have h4 : decide (lo ≤ n) = false := by simp [h1]
    rw [h3]
    clear h3 h1
    go_enter Try.func51, Try.ntmps51
    go_wp2
    go_ret
    exact ⟨rfl, rfl⟩

set_option maxRecDepth 100000 in
set_option maxHeartbeats 4000000 in
theorem rcheck_any (r : Row) (pv : Value) (w : World) (hP : PtsAt w pv r.pts) :
    Calls Try.prog 17 #[.agg #[.int .i64 r.st, pv]] w fun e w' => e = .returned (.tuple #[.int .i64 (checkR r).1, .int .i64 (checkR r).2.1, .int .i64 (checkR r).2.2]) ∧ Below w.heap.size w w' := by
  obtain ⟨st, pts⟩ := r
  simp only at hP ⊢
  obtain ⟨lp, pa, pc, rfl, _, _⟩ := id hP
  have lpI : (pts.length : Int) ≤ 4611686018427387904 := by omega
  have HP := Lib.hid hP
  clear hP
  obtain ⟨B, HB⟩ : ∃ B, Hid (okIn 0 200 st = B) := ⟨_, rfl⟩
  go_enter Try.func17, Try.ntmps17
  go_wp2_with fail
  refine (rin_any _ _ _ _).mono ?_
  rintro e w' ⟨rfl, rfl⟩
  rw [HB.out]
  cases B
  · have HF : Hid (checkR ⟨st, pts⟩ = (1, 0, 7)) := by show _ = _; unfold checkR; rw [if_pos HB.out]
    go_wp2
    go_ret3
    exact ⟨by rw [HF.out]; rfl, by go_grown⟩
  obtain ⟨C, HC⟩ : ∃ C, Hid (okIn 1 10 pts.length = C) := ⟨_, rfl⟩
  go_wp2_with fail
  refine (rin_any _ _ _ _).mono ?_
  rintro e w' ⟨rfl, rfl⟩
  rw [HC.out]
  cases C
  · have HF : Hid (checkR ⟨st, pts⟩ = (1, 0, 3)) := by show _ = _; unfold checkR; rw [if_neg (by simp [HB.out]), if_pos HC.out]
    go_wp2
    go_ret3
    exact ⟨by rw [HF.out]; rfl, by go_grown⟩
  have HF : Hid (checkR ⟨st, pts⟩ = errFrom pts 0) := by show _ = _; unfold checkR; rw [if_neg (by simp [HB.out]), if_neg (by simp [HC.out])]
  have HW0 : Hid (Below w.heap.size w (w.alloc (Obj.cells #[.int .i64 st, .slice pa pts.length pc] 24))) := by show Below _ _ _; go_grown
  have HRB := Lib.hid (heap_alloc_new w (Obj.cells #[.int .i64 st, .slice pa pts.length pc] 24))
  have hsz : (w.alloc (Obj.cells #[.int .i64 st, .slice pa pts.length pc] 24)).heap.size = w.heap.size + 1 := by simp
  go_wp2_with fail
  generalize w.alloc (Obj.cells #[.int .i64 st, .slice pa pts.length pc] 24) = w0 at *
  go_loopg [5] pts.length (fun g i wr => ∃ k : Nat, g + k = pts.length ∧ i = .int .i64 k ∧ Hid (∀ j (h : j < pts.length), j < k → ptErr pts[j] = 0) ∧ Hid (Below w0.heap.size w0 wr))
  case atStart => exact ⟨0, rfl, rfl, fun j _ hj => by omega, Below.refl _ _⟩
  case round =>
    obtain ⟨k, hk, rfl, HE, HR⟩ := hrel
    have r0 := cellOf ((HR.out.block _ (lt_of_block HRB.out)).trans HRB.out) 0 _ rfl
    have r1 := cellOf ((HR.out.block _ (lt_of_block HRB.out)).trans HRB.out) 1 _ rfl
    by_cases hlt : k < pts.length
    · obtain ⟨b, o, rfl, c0, c1, c2⟩ := ((HP.out.below HW0.out).below HR.out).get hlt
      have kI : (k : Int) < (pts.length : Int) := by omega
      have HX : Hid (ptErr pts[k] ≠ 0 → errFrom pts 0 = (2, (k : Int), ptErr pts[k])) := fun h => errFrom_at pts k hlt HE.out h
      have HN : Hid (ptErr pts[k] = 0 → ∀ j (h : j < pts.length), j < k + 1 → ptErr pts[j] = 0) := fun h j hj hjk => by
        by_cases e : j = k
        · subst e; exact h
        · exact HE.out j hj (by omega)
      clear HE
      generalize pts[k] = p at *
      obtain ⟨bd, lo, hi⟩ := p
      simp only at c0 c1 c2
      have HRA : Hid (Below w0.heap.size w0 (wr.alloc (Obj.cells #[.int .i64 bd, .int .i64 lo, .int .i64 hi] 58))) := HR.out.alloc HR.out.size _
      have HPB := Lib.hid (heap_alloc_new wr (Obj.cells #[.int .i64 bd, .int .i64 lo, .int .i64 hi] 58))
      have e0 := cellOf HPB.out 0 _ rfl
      have e1 := cellOf HPB.out 1 _ rfl
      have e2 := cellOf HPB.out 2 _ rfl
      obtain ⟨B1, HB1⟩ : ∃ B, Hid (okIn 0 9000 bd = B) := ⟨_, rfl⟩
      go_wp2_with fail
      refine (rin_any _ _ _ _).mono ?_
      rintro e w' ⟨rfl, rfl⟩
      rw [HB1.out]
      cases B1
      · have HZ : Hid (ptErr ⟨bd, lo, hi⟩ = 7) := by show _ = _; unfold ptErr; rw [if_pos (by simp [HB1.out])]
        have HX7 : Hid (errFrom pts 0 = (2, (k : Int), 7)) := by have := HX.out (by rw [HZ.out]; decide); rw [HZ.out] at this; exact this
        clear HX HN
        go_wp2
        go_ret3
        exact ⟨by rw [HF.out, HX7.out]; rfl, HW0.out.trans (HRA.out.mono HW0.out.size)⟩
      go_wp2_with fail
      obtain ⟨B2, HB2⟩ : ∃ B, Hid (okIn 0 9000 lo = B) := ⟨_, rfl⟩
      refine (rin_any _ _ _ _).mono ?_
      rintro e w' ⟨rfl, rfl⟩
      rw [HB2.out]
      cases B2
      · have HZ : Hid (ptErr ⟨bd, lo, hi⟩ = 7) := by show _ = _; unfold ptErr; rw [if_pos (by simp [HB2.out])]
        have HX7 : Hid (errFrom pts 0 = (2, (k : Int), 7)) := by have := HX.out (by rw [HZ.out]; decide); rw [HZ.out] at this; exact this
        clear HX HN
        go_wp2
        go_ret3
        exact ⟨by rw [HF.out, HX7.out]; rfl, HW0.out.trans (HRA.out.mono HW0.out.size)⟩
      go_wp2_with fail
      obtain ⟨B3, HB3⟩ : ∃ B, Hid (okIn 0 9000 hi = B) := ⟨_, rfl⟩
      refine (rin_any _ _ _ _).mono ?_
      rintro e w' ⟨rfl, rfl⟩
      rw [HB3.out]
      cases B3
      · have HZ : Hid (ptErr ⟨bd, lo, hi⟩ = 7) := by show _ = _; unfold ptErr; rw [if_pos (by simp [HB3.out])]
        have HX7 : Hid (errFrom pts 0 = (2, (k : Int), 7)) := by have := HX.out (by rw [HZ.out]; decide); rw [HZ.out] at this; exact this
        clear HX HN
        go_wp2
        go_ret3
        exact ⟨by rw [HF.out, HX7.out]; rfl, HW0.out.trans (HRA.out.mono HW0.out.size)⟩
      have hl : 0 ≤ lo ∧ lo ≤ 9000 := by simpa [okIn] using HB2.out
      obtain ⟨hl0, hl9⟩ := hl
      obtain ⟨D, HD⟩ : ∃ B, Hid (okIn lo (lo + 30) hi = B) := ⟨_, rfl⟩
      go_wp2_with fail
      refine (rin_any _ _ _ _).mono ?_
      rintro e w' ⟨rfl, rfl⟩
      rw [HD.out]
      cases D
      · have HZ : Hid (ptErr ⟨bd, lo, hi⟩ = 2) := by show _ = _; unfold ptErr; rw [if_neg (by simp [HB1.out, HB2.out, HB3.out]), if_pos HD.out]
        have HX2 : Hid (errFrom pts 0 = (2, (k : Int), 2)) := by have := HX.out (by rw [HZ.out]; decide); rw [HZ.out] at this; exact this
        clear HX HN
        go_wp2
        go_ret3
        exact ⟨by rw [HF.out, HX2.out]; rfl, HW0.out.trans (HRA.out.mono HW0.out.size)⟩
      · have HN' := Lib.hid (HN.out (by unfold ptErr; rw [if_neg (by simp [HB1.out, HB2.out, HB3.out]), if_neg (by simp [HD.out])]))
        clear HN HX
        go_wp2
        go_roundg (gk - 1)
        case measure => omega
        case rel => exact ⟨k + 1, by omega, by go_num, HN'.out, HRA.out⟩
    · have HX : Hid (errFrom pts 0 = (0, 0, 0)) := errFrom_none pts fun j hj => HE.out j hj (by omega)
      obtain rfl : k = pts.length := by omega
      clear hlt hk HE
      go_wp2
      go_ret3
      exact ⟨by rw [HF.out, HX.out]; rfl, HW0.out.trans (HR.out.mono HW0.out.size)⟩

set_option maxRecDepth 100000 in
theorem valid_any (r : Row) (pv : Value) (w : World) (hP : PtsAt w pv r.pts) :
    Calls Try.prog 40 #[.agg #[.int .i64 r.st, pv]] w fun e w' => e = .returned (.bool (errR r == 0)) ∧ Below w.heap.size w w' := by
  obtain ⟨st, pts⟩ := r
  simp only at hP ⊢
  obtain ⟨lp, pa, pc, rfl, _, _⟩ := id hP
  have HP := Lib.hid hP
  clear hP
  have HW0 : Hid (Below w.heap.size w (w.alloc (Obj.cells #[.int .i64 st, .slice pa pts.length pc] 24))) := by show Below _ _ _; go_grown
  have HC := Lib.hid (rcheck_any ⟨st, pts⟩ (.slice pa pts.length pc) (w.alloc (Obj.cells #[.int .i64 st, .slice pa pts.length pc] 24)) (HP.out.below HW0.out))
  obtain ⟨c1, HC1⟩ : ∃ c, Hid ((checkR ⟨st, pts⟩).1 = c) := ⟨_, rfl⟩
  obtain ⟨c2, HC2⟩ : ∃ c, Hid ((checkR ⟨st, pts⟩).2.1 = c) := ⟨_, rfl⟩
  obtain ⟨c3, HC3⟩ : ∃ c, Hid ((checkR ⟨st, pts⟩).2.2 = c) := ⟨_, rfl⟩
  have HE : Hid ((errR ⟨st, pts⟩ == 0) = (c3 == 0)) := by show _ = _; unfold errR; rw [HC3.out]
  rw [HC1.out, HC2.out, HC3.out] at HC
  clear HC1 HC2 HC3
  go_enter Try.func40, Try.ntmps40
  go_wp2_with fail
  refine HC.out.mono ?_
  rintro e w' ⟨rfl, hb⟩
  have HB := Lib.hid (HW0.out.trans (hb.mono HW0.out.size))
  clear HC hb HP HW0
  by_cases h : c3 = 0
  · subst h
    go_wp2
    go_ret
    exact ⟨by rw [HE.out]; rfl, HB.out⟩
  · have e3 : (c3 == 0) = false := by simp [h]
    go_wp2
    go_ret
    exact ⟨by rw [HE.out, e3]; rfl, HB.out⟩
end Go.Proofs.Ytnciomoapajonaa
