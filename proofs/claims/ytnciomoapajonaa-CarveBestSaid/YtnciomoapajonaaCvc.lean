/- Package carve: Check. -/
import Derived.Test.YtnciomoapajonaaCvb
import Derived.Deep.LoopGhost
set_option linter.unusedSimpArgs false
set_option linter.unusedVariables false
namespace Go.Proofs.Ytnciomoapajonaa
open Go Go.RowKit Cv

set_option maxRecDepth 100000 in
set_option maxHeartbeats 2000000 in
theorem check_any (r : Row) (pv : Value) (w : World) (hP : PtsAt w pv r.pts) :
    Calls Try.prog 16 #[.agg #[.int .i64 r.st, pv]] w fun e w' => e = .returned (.tuple #[.int .i64 (checkR r).1, .int .i64 (checkR r).2.1, .int .i64 (checkR r).2.2]) ∧ Below w.heap.size w w' := by
  obtain ⟨st, pts⟩ := r
  simp only at hP ⊢
  obtain ⟨lp, pa, pc, rfl, _, _⟩ := id hP
  have lpI : (pts.length : Int) ≤ 4611686018427387904 := by omega
  have HP := Lib.hid hP
  clear hP
  obtain ⟨B, HB⟩ : ∃ B, Hid (okIn 0 200 st = B) := ⟨_, rfl⟩
  cases B
  · have HF : Hid (checkR ⟨st, pts⟩ = (1, 0, 7)) := by show _ = _; unfold checkR; rw [if_pos HB.out]
    go_enter Try.func16, Try.ntmps16
    go_wp2_with fail
    refine (within_1 _ _ _ _ _ _ (by simp)).mono ?_
    rintro e w' ⟨rfl, rfl⟩
    rw [HB.out]
    go_wp2
    go_ret3
    exact ⟨by rw [HF.out]; rfl, by go_grown⟩
  · obtain ⟨C, HC⟩ : ∃ C, Hid (okIn 1 10 pts.length = C) := ⟨_, rfl⟩
    cases C
    · have HF : Hid (checkR ⟨st, pts⟩ = (1, 0, 3)) := by show _ = _; unfold checkR; rw [if_neg (by simp [HB.out]), if_pos HC.out]
      go_enter Try.func16, Try.ntmps16
      go_wp2_with fail
      refine (within_1 _ _ _ _ _ _ (by simp)).mono ?_
      rintro e w' ⟨rfl, rfl⟩
      rw [HB.out]
      go_wp2_with fail
      refine (within_1 _ _ _ _ _ _ (by simp)).mono ?_
      rintro e w' ⟨rfl, rfl⟩
      rw [HC.out]
      go_wp2
      go_ret3
      exact ⟨by rw [HF.out]; rfl, by go_grown⟩
    · have HF : Hid (checkR ⟨st, pts⟩ = errFrom pts 0) := by show _ = _; unfold checkR; rw [if_neg (by simp [HB.out]), if_neg (by simp [HC.out])]
      go_enter Try.func16, Try.ntmps16
      go_wp2_with fail
      refine (within_1 _ _ _ _ _ _ (by simp)).mono ?_
      rintro e w' ⟨rfl, rfl⟩
      rw [HB.out]
      go_wp2_with fail
      refine (within_1 _ _ _ _ _ _ (by simp)).mono ?_
      rintro e w' ⟨rfl, rfl⟩
      rw [HC.out]
      have HW0 : Hid (Below w.heap.size w (((w.alloc (Obj.cells #[.int .i64 st, .slice pa pts.length pc] 24)).alloc (Obj.cells #[.int .i64 st] 3)).alloc (Obj.cells #[.int .i64 pts.length] 3))) := by show Below _ _ _; go_grown
      go_wp2_with fail
      generalize ((w.alloc (Obj.cells #[.int .i64 st, .slice pa pts.length pc] 24)).alloc (Obj.cells #[.int .i64 st] 3)).alloc (Obj.cells #[.int .i64 pts.length] 3) = w0 at *
      go_loopg [22] pts.length (fun g i wr => ∃ k : Nat, g + k = pts.length ∧ i = .int .i64 k ∧ Hid (∀ j (h : j < pts.length), j < k → ptErr pts[j] = 0) ∧ Hid (Below w.heap.size w wr))
      case atStart => exact ⟨0, rfl, rfl, fun j _ hj => by omega, HW0.out⟩
      case round =>
        obtain ⟨k, hk, rfl, HE, HR⟩ := hrel
        clear HW0
        by_cases hlt : k < pts.length
        · obtain ⟨b, o, rfl, c0, c1, c2⟩ := (HP.out.below HR.out).get hlt
          have kI : (k : Int) < (pts.length : Int) := by omega
          have HPF := Lib.hid (pointFault_any pts[k])
          have HX : Hid (ptErr pts[k] ≠ 0 → errFrom pts 0 = (2, (k : Int), ptErr pts[k])) := fun h => errFrom_at pts k hlt HE.out h
          have HN : Hid (ptErr pts[k] = 0 → ∀ j (h : j < pts.length), j < k + 1 → ptErr pts[j] = 0) := fun h j hj hjk => by
            by_cases e : j = k
            · subst e; exact h
            · exact HE.out j hj (by omega)
          clear HE
          generalize pts[k] = p at *
          obtain ⟨bd, lo, hi⟩ := p
          simp only at c0 c1 c2
          have HRA : Hid (Below w.heap.size w (wr.alloc (Obj.cells #[.int .i64 bd, .int .i64 lo, .int .i64 hi] 58))) := HR.out.alloc HR.out.size _
          obtain ⟨z, HZ⟩ : ∃ z : Int, Hid (ptErr ⟨bd, lo, hi⟩ = z) := ⟨_, rfl⟩
          rw [HZ.out] at HPF HX HN
          go_wp2_with fail
          refine (HPF.out _).mono ?_
          rintro e w4 ⟨rfl, hb⟩
          have HR4 := Lib.hid (HRA.out.trans (hb.mono HRA.out.size))
          clear hb HPF HRA
          by_cases hz : z = 0
          · subst hz
            have HN' := Lib.hid (HN.out rfl)
            clear HN HX
            go_wp2
            go_roundg (gk - 1)
            case measure => omega
            case rel => exact ⟨k + 1, by omega, by go_num, HN'.out, HR4.out⟩
          · have HX' := Lib.hid (HX.out hz)
            have tz : (z != 0) = true := by simp [hz]
            clear HN HX hz
            go_wp2
            go_ret3
            exact ⟨by rw [HF.out, HX'.out]; rfl, HR4.out⟩
        · have HX : Hid (errFrom pts 0 = (0, 0, 0)) := errFrom_none pts fun j hj => HE.out j hj (by omega)
          obtain rfl : k = pts.length := by omega
          clear hlt hk HE
          go_wp2
          go_ret3
          exact ⟨by rw [HF.out, HX.out]; rfl, HR.out⟩
end Go.Proofs.Ytnciomoapajonaa
