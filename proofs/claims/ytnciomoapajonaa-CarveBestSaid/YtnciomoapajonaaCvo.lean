/- Package carve: lookWith, Plaster, Carved. -/
import Derived.Test.YtnciomoapajonaaCvl
import Derived.Laws.OwnMore
import Derived.OwnWalk
set_option linter.unusedSimpArgs false
set_option linter.unusedVariables false
namespace Go.Proofs.Ytnciomoapajonaa
open Go Go.RowKit Cv

/-- The error of a row and a surface. -/
def surfR (r : Row) (s : List Int) : Int := if errR r ≠ 0 then errR r else surfE s r.pts.length
theorem surfR_ok {r : Row} {s : List Int} (h : surfR r s = 0) : Valid r ∧ s.length = r.pts.length ∧ ∀ x, x ∈ s → 0 ≤ x ∧ x ≤ 9000 := by
  unfold surfR at h
  by_cases hz : errR r = 0
  · rw [if_neg (by simp [hz])] at h
    unfold surfE at h
    by_cases hl : s.length = r.pts.length
    · rw [if_neg (by simp [hl])] at h
      by_cases ha : allIn 0 9000 s = false
      · rw [if_pos ha] at h; cases h
      · refine ⟨(check_valid r).1 hz, hl, fun x hx => ?_⟩
        unfold allIn okIn at ha
        simp at ha
        exact ha x hx
    · rw [if_pos hl] at h; cases h
  · rw [if_pos hz] at h; exact absurd h hz
/-- A row that is looked at with a surface, or nothing and the error. -/
def LookW (r : Row) (pv : Value) (s : List Int) (w : World) (e : Ending) (w' : World) : Prop :=
  e = .returned (.tuple #[if surfR r s = 0 then .agg #[.int .i64 r.st, pv] else .agg #[.int .i64 0, .slice none 0 0], .int .i64 (surfR r s)]) ∧ Below w.heap.size w w'
theorem look_ok (r : Row) (pv : Value) (w : World) (hP : PtsAt w pv r.pts) (hz : errR r = 0) : Calls Try.prog 55 #[.agg #[.int .i64 r.st, pv]] w fun e w' => e = .returned (.tuple #[.agg #[.int .i64 r.st, pv], .int .i64 0]) ∧ Below w.heap.size w w' :=
  (look_any r pv w hP).mono fun e w' ⟨h1, h2⟩ => ⟨by rw [h1, hz, if_pos rfl], h2⟩
theorem look_no (r : Row) (pv : Value) (w : World) (hP : PtsAt w pv r.pts) (hz : errR r ≠ 0) : Calls Try.prog 55 #[.agg #[.int .i64 r.st, pv]] w fun e w' => e = .returned (.tuple #[.agg #[.int .i64 0, .slice none 0 0], .int .i64 (errR r)]) ∧ Below w.heap.size w w' :=
  (look_any r pv w hP).mono fun e w' ⟨h1, h2⟩ => ⟨by rw [h1, if_neg hz], h2⟩
set_option maxRecDepth 100000 in
set_option maxHeartbeats 2000000 in
theorem lookWith_any (r : Row) (pv sv : Value) (s : List Int) (w : World) (hP : PtsAt w pv r.pts) (hS : IntsAt w sv s) : Calls Try.prog 60 #[.agg #[.int .i64 r.st, pv], sv] w (LookW r pv s w) := by
  obtain ⟨st, pts⟩ := r
  simp only at hP ⊢
  obtain ⟨lp, pa, pc, rfl, _, _⟩ := id hP
  obtain ⟨ls, sa, sc, rfl, _, _⟩ := id hS
  have hB : Below w.heap.size w ((w.alloc (Obj.cells #[.int .i64 st, .slice pa pts.length pc] 24)).alloc (Obj.cells #[.int .i64 0, .slice none 0 0] 76)) := by go_grown
  have HB := Lib.hid hB
  have HP := Lib.hid (hP.below hB)
  have HS := Lib.hid (hS.below hB)
  have HA := Lib.hid (heap_alloc2_old w (Obj.cells #[.int .i64 st, .slice pa pts.length pc] 24) (Obj.cells #[.int .i64 0, .slice none 0 0] 76))
  have HR := Lib.hid (heap_alloc2_new w (Obj.cells #[.int .i64 st, .slice pa pts.length pc] 24) (Obj.cells #[.int .i64 0, .slice none 0 0] 76))
  have a0 := cellOf HA.out 0 _ rfl
  have a1 := cellOf HA.out 1 _ rfl
  clear hP hS hB
  go_enter Try.func60, Try.ntmps60
  go_wp2_with fail
  generalize (w.alloc (Obj.cells #[.int .i64 st, .slice pa pts.length pc] 24)).alloc (Obj.cells #[.int .i64 0, .slice none 0 0] 76) = w0 at *
  by_cases hz : errR ⟨st, pts⟩ = 0
  · refine (look_ok ⟨st, pts⟩ (.slice pa pts.length pc) w0 HP.out hz).mono ?_
    rintro e w1 ⟨rfl, hb⟩
    have HZ : Hid (surfR ⟨st, pts⟩ s = surfE s pts.length) := by show _ = _; unfold surfR; rw [if_neg (by simp [hz])]
    have HA1 := Lib.hid ((hb.block _ (lt_of_block HA.out)).trans HA.out)
    have HR1 := Lib.hid ((hb.block _ (lt_of_block HR.out)).trans HR.out)
    have HB1 := Lib.hid (HB.out.trans (hb.mono HB.out.size))
    have hB2 : Below w1.heap.size w1 (w1.alloc (Obj.cells #[.int .i64 st, .slice pa pts.length pc] 76)) := by go_grown
    have HA2 := Lib.hid ((hB2.block _ (lt_of_block HA1.out)).trans HA1.out)
    have HR2 := Lib.hid ((hB2.block _ (lt_of_block HR1.out)).trans HR1.out)
    have HB2 := Lib.hid (HB1.out.trans (hB2.mono HB1.out.size))
    have HL2 := Lib.hid (heap_alloc_new w1 (Obj.cells #[.int .i64 st, .slice pa pts.length pc] 76))
    have HSF := Lib.hid (surfaceFault_any (.slice sa s.length sc) s pts.length _ ((HS.out.below hb).below hB2) lp)
    obtain ⟨z, HE⟩ : ∃ z, Hid (surfE s pts.length = z) := ⟨_, rfl⟩
    rw [HE.out] at HSF
    have a0 := cellOf HA2.out 0 _ rfl
    have a1 := cellOf HA2.out 1 _ rfl
    clear hb HA HR HB HP HS HA1 HR1 HB1 hB2 hz
    have lpI : (pts.length : Int) ≤ 4611686018427387904 := by omega
    go_wp2_with fail
    generalize w1.alloc (Obj.cells #[.int .i64 st, .slice pa pts.length pc] 76) = w2 at *
    refine HSF.out.mono ?_
    rintro e w' ⟨rfl, rfl⟩
    have r0 := cellOf HR2.out 0 _ rfl
    have r1 := cellOf HR2.out 1 _ rfl
    have g0 := frozen_of_row _ _ 0 _ _ HR2.out
    have g1 := frozen_of_row _ _ 1 _ _ HR2.out
    have l0 := cellOf HL2.out 0 _ rfl
    have l1 := cellOf HL2.out 1 _ rfl
    clear HSF a0 a1
    by_cases hz : z = 0
    · subst hz
      go_wp2_with fail
      refine bodyPost_ret (look_result rfl _ _ (w.heap.size + 1) _ _ _ rfl (two_set HR2.out) rfl) rfl ⟨?_, two_below HB2.out (by simp)⟩
      rw [HZ.out, HE.out, if_pos rfl]
      rfl
    · have tz : (z != 0) = true := by simp [hz]
      have HN := Lib.hid hz
      clear hz
      go_wp2_with fail
      refine bodyPost_ret (look_result rfl _ _ (w.heap.size + 1) _ _ _ rfl (two_set HR2.out) rfl) rfl ⟨?_, two_below HB2.out (by simp)⟩
      rw [HZ.out, HE.out, if_neg HN.out]
      rfl
  · refine (look_no ⟨st, pts⟩ (.slice pa pts.length pc) w0 HP.out hz).mono ?_
    rintro e w1 ⟨rfl, hb⟩
    have HZ : Hid (surfR ⟨st, pts⟩ s = errR ⟨st, pts⟩) := by show _ = _; unfold surfR; rw [if_pos hz]
    have HN := Lib.hid hz
    obtain ⟨z, HE⟩ : ∃ z, Hid (errR ⟨st, pts⟩ = z) := ⟨_, rfl⟩
    have HR1 := Lib.hid ((hb.block _ (lt_of_block HR.out)).trans HR.out)
    have HB1 := Lib.hid (HB.out.trans (hb.mono HB.out.size))
    rw [HE.out] at HN hz ⊢
    have tz : (z != 0) = true := by simp [hz]
    have hrs : w.heap.size + 1 < w1.heap.size := lt_of_block HR1.out
    have r0 := cellOf HR1.out 0 _ rfl
    have r1 := cellOf HR1.out 1 _ rfl
    have g0 := frozen_of_row _ _ 0 _ _ HR1.out
    have g1 := frozen_of_row _ _ 1 _ _ HR1.out
    clear hb HA HR HB HP HS a0 a1 hz
    go_wp2_with fail
    refine bodyPost_ret (look_result rfl _ _ (w.heap.size + 1) _ _ _ rfl ((Below.heap_alloc _ _ _ (by simpa using hrs)).trans (two_set HR1.out)) rfl) rfl ⟨?_, (two_below HB1.out (by simp)).alloc (by have := HB1.out.size; simpa using this) _⟩
    rw [HZ.out, HE.out, if_neg HN.out]
    rfl
end Go.Proofs.Ytnciomoapajonaa
