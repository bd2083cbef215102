/- Package carve: bound, Bounds. -/
import Derived.Test.YtnciomoapajonaaCwk
set_option linter.unusedSimpArgs false
set_option linter.unusedVariables false
namespace Go.Proofs.Ytnciomoapajonaa
open Go Go.RowKit Go.Shelf Cv

theorem bound_result {fn : Func} {p q : Tmp} (h : fn.results = #[.cell p 78, .tmp q]) (tmps : Array Value) (w : World) (g : Nat) (x y z v : Value)
    (hp : tmps.getD p undef = .pointer (some ⟨g, 0, none⟩)) (hg : w.heap[g]? = some (.cells #[x, y, z] 78 (0, 0))) (hq : tmps.getD q undef = v) :
    (results fn tmps).run Try.prog w = .ok (.tuple #[.agg #[x, y, z], v]) w := by
  have c0 : w.cell? ⟨g, 0, none⟩ = some x := cellOf hg 0 _ rfl
  have c1 : w.cell? ⟨g, 1, none⟩ = some y := cellOf hg 1 _ rfl
  have c2 : w.cell? ⟨g, 2, none⟩ = some z := cellOf hg 2 _ rfl
  have hp' : tmps[p]?.getD undef = .pointer (some ⟨g, 0, none⟩) := by simpa using hp
  have hq' : tmps[q]?.getD undef = v := by simpa using hq
  simp only [results, h]
  simp [Sem.run_bind, Result.andThen, hp', hq', asAddr, go_sem, c0, c1, c2]
theorem three_set {V : World} {g : Nat} {z0 z1 z2 x y z : Value} {T : TypeId} (h : V.heap[g]? = some (.cells #[z0, z1, z2] T (0, 0))) :
    (((V.setCell ⟨g, 0, none⟩ x).setCell ⟨g, 1, none⟩ y).setCell ⟨g, 2, none⟩ z).heap[g]? = some (.cells #[x, y, z] T (0, 0)) :=
  heap_setCell_same _ g 2 _ _ z (heap_setCell_same _ g 1 _ _ y (heap_setCell_same V g 0 _ _ x h))
theorem three_below {w V : World} {B g : Nat} {x y z : Value} (h : Below B w V) (hg : B ≤ g) : Below B w (((V.setCell ⟨g, 0, none⟩ x).setCell ⟨g, 1, none⟩ y).setCell ⟨g, 2, none⟩ z) :=
  ((h.setCell (p := ⟨g, 0, none⟩) hg x).setCell (p := ⟨g, 1, none⟩) hg y).setCell (p := ⟨g, 2, none⟩) hg z
/-- The error of a row, or of its bounds. -/
def boundE (r : Row) : Int := if errR r = 0 then (if crossB r then 9 else 0) else errR r
theorem boundE_ok {r : Row} (h : boundE r = 0) : errR r = 0 ∧ crossB r = false := by
  unfold boundE at h
  split at h
  · rename_i h1
    refine ⟨h1, ?_⟩
    cases hc : crossB r
    · rfl
    · rw [hc] at h; simp at h
  · rename_i h1; exact absurd h h1
set_option maxRecDepth 100000 in
set_option maxHeartbeats 2000000 in
theorem bound_any (r : Row) (pv : Value) (w : World) (hP : PtsAt w pv r.pts) :
    Calls Try.prog 52 #[.agg #[.int .i64 r.st, pv]] w fun e w' => ((boundE r = 0 ∧ ∃ g cap, e = .returned (.tuple #[.agg #[.int .i64 r.st, pv, .slice (some ⟨g, 0, none⟩) r.pts.length cap], .int .i64 0]) ∧ w'.ownsRow w.heap.size 56 2 (.slice (some ⟨g, 0, none⟩) r.pts.length cap) r.pts.length (passC (bandsR r))) ∨
      (boundE r ≠ 0 ∧ e = .returned (.tuple #[.agg #[.int .i64 0, .slice none 0 0, .slice none 0 0], .int .i64 (boundE r)]))) ∧ Below w.heap.size w w' := by
  obtain ⟨st, pts⟩ := r
  simp only at hP ⊢
  obtain ⟨lp, pa, pc, rfl, _, _⟩ := id hP
  have hB : Below w.heap.size w ((w.alloc (Obj.cells #[.int .i64 st, .slice pa pts.length pc] 24)).alloc (Obj.cells #[.int .i64 0, .slice none 0 0, .slice none 0 0] 78)) := by go_grown
  have HP := Lib.hid (hP.below hB)
  have HB := Lib.hid hB
  have HA := Lib.hid (heap_alloc2_old w (Obj.cells #[.int .i64 st, .slice pa pts.length pc] 24) (Obj.cells #[.int .i64 0, .slice none 0 0, .slice none 0 0] 78))
  have HR := Lib.hid (heap_alloc2_new w (Obj.cells #[.int .i64 st, .slice pa pts.length pc] 24) (Obj.cells #[.int .i64 0, .slice none 0 0, .slice none 0 0] 78))
  clear hP hB
  go_enter Try.func52, Try.ntmps52
  go_wp2_with fail
  generalize (w.alloc (Obj.cells #[.int .i64 st, .slice pa pts.length pc] 24)).alloc (Obj.cells #[.int .i64 0, .slice none 0 0, .slice none 0 0] 78) = w0 at *
  by_cases hz : errR ⟨st, pts⟩ = 0
  · refine (look_ok ⟨st, pts⟩ (.slice pa pts.length pc) w0 HP.out hz).mono ?_
    rintro e w1 ⟨rfl, hb⟩
    have HP1 := Lib.hid (HP.out.below hb)
    have HR1 := Lib.hid ((hb.block _ (lt_of_block HR.out)).trans HR.out)
    have HB1 := Lib.hid (HB.out.trans (hb.mono HB.out.size))
    have HV := Lib.hid ((check_valid ⟨st, pts⟩).1 hz)
    have HBE : Hid (boundE ⟨st, pts⟩ = if crossB ⟨st, pts⟩ then 9 else 0) := by show _ = _; unfold boundE; rw [if_pos hz]
    have r0 := frozen_of_row _ _ 0 _ _ HR1.out
    clear hb hz HA HR HB HP
    go_wp2_with fail
    have HP2 := Lib.hid (HP1.out.below ((Below.refl _ w1).alloc (Nat.le_refl _) (Obj.cells #[.int .i64 st, .slice pa pts.length pc] 76)))
    have HR2 := Lib.hid ((Below.heap_alloc w1 (Obj.cells #[.int .i64 st, .slice pa pts.length pc] 76) _ (lt_of_block HR1.out)).trans HR1.out)
    have HL2 := Lib.hid (heap_alloc_new w1 (Obj.cells #[.int .i64 st, .slice pa pts.length pc] 76))
    have HB2 := Lib.hid (HB1.out.alloc HB1.out.size (Obj.cells #[.int .i64 st, .slice pa pts.length pc] 76))
    generalize w1.alloc (Obj.cells #[.int .i64 st, .slice pa pts.length pc] 76) = W2 at *
    refine (bounds_any ⟨st, pts⟩ HV.out (.slice pa pts.length pc) W2 HP2.out).mono ?_
    rintro e w3 ⟨g, cap, rfl, hown, hb⟩
    have HR3 := Lib.hid ((hb.block _ (lt_of_block HR2.out)).trans HR2.out)
    have HL3 := Lib.hid ((hb.block _ (lt_of_block HL2.out)).trans HL2.out)
    have HB3 := Lib.hid (HB2.out.trans (hb.mono HB2.out.size))
    have HO3 := Lib.hid (own_base hown HB2.out.size)
    have l0 := cellOf HL3.out 0 _ rfl
    have l1 := cellOf HL3.out 1 _ rfl
    have x0 := cellOf HR3.out 0 _ rfl
    have x1 := cellOf HR3.out 1 _ rfl
    have x2 := cellOf HR3.out 2 _ rfl
    have f0 := frozen_of_row _ _ 0 _ _ HR3.out
    have f1 := frozen_of_row _ _ 1 _ _ HR3.out
    have f2 := frozen_of_row _ _ 2 _ _ HR3.out
    have hown3 := own_at hown
    have hgW := lt_of_block HL2.out
    have hgR := lt_of_block HR2.out
    clear hb hown r0 HP1 HR1 HB1 HP2 HB2
    generalize crossB ⟨st, pts⟩ = cb at *
    cases cb
    · go_wp2_with fail
      refine bodyPost_ret (bound_result rfl _ _ (w.heap.size + 1) _ _ _ _ rfl (three_set HR3.out) rfl) rfl ⟨.inl ⟨by rw [HBE.out]; rfl, g, cap, rfl, ?_⟩, three_below HB3.out (by simp)⟩
      have hne : g ≠ w.heap.size + 1 := by have := hown3.2; omega
      exact ownsRow_setCell_other (ownsRow_setCell_other (ownsRow_setCell_other HO3.out (by simpa [Value.ownBlock] using hne) _) (by simpa [Value.ownBlock] using hne) _) (by simpa [Value.ownBlock] using hne) _
    · go_wp2_with fail
      refine bodyPost_ret (bound_result rfl _ _ (w.heap.size + 1) _ _ _ _ rfl (three_set HR3.out) rfl) rfl ⟨.inr ⟨by rw [HBE.out]; simp, by rw [HBE.out]; rfl⟩, three_below HB3.out (by simp)⟩
  · refine (look_no ⟨st, pts⟩ (.slice pa pts.length pc) w0 HP.out hz).mono ?_
    rintro e w1 ⟨rfl, hb⟩
    have HR1 := Lib.hid ((hb.block _ (lt_of_block HR.out)).trans HR.out)
    have HB1 := Lib.hid (HB.out.trans (hb.mono HB.out.size))
    have HBE : Hid (boundE ⟨st, pts⟩ = errR ⟨st, pts⟩) := by show _ = _; unfold boundE; rw [if_neg hz]
    have HZ := Lib.hid hz
    generalize errR ⟨st, pts⟩ = er at *
    have tz : (er != 0) = true := by simp [hz]
    have x0 := cellOf HR1.out 0 _ rfl
    have x1 := cellOf HR1.out 1 _ rfl
    have x2 := cellOf HR1.out 2 _ rfl
    have f0 := frozen_of_row _ _ 0 _ _ HR1.out
    have f1 := frozen_of_row _ _ 1 _ _ HR1.out
    have f2 := frozen_of_row _ _ 2 _ _ HR1.out
    have hgR := lt_of_block HR1.out
    clear hb hz HA HR HB HP
    go_wp2_with fail
    have hq := three_set (x := .int .i64 0) (y := .slice none 0 0) (z := .slice none 0 0) HR1.out
    have hq2 := (Below.heap_alloc _ (Obj.cells #[.int .i64 0, .slice none 0 0] 76) _ (lt_of_block hq)).trans hq
    have hqb := three_below (g := w.heap.size + 1) (x := .int .i64 0) (y := .slice none 0 0) (z := .slice none 0 0) HB1.out (by simp)
    have hqc := hqb.alloc hqb.size (Obj.cells #[.int .i64 0, .slice none 0 0] 76)
    refine bodyPost_ret (bound_result rfl _ _ (w.heap.size + 1) (.int .i64 0) (.slice none 0 0) (.slice none 0 0) (.int .i64 er) rfl hq2 rfl) rfl ⟨.inr ⟨by rw [HBE.out]; exact HZ.out, by rw [HBE.out]⟩, hqc⟩
/-- What Bounds answers. -/
def boundsR (r : Row) : List Sp × Int := if boundE r = 0 then (bandsR r, 0) else ([], boundE r)
set_option maxRecDepth 100000 in
set_option maxHeartbeats 2000000 in
theorem Bounds_any (r : Row) (pv : Value) (w : World) (hP : PtsAt w pv r.pts) :
    Calls Try.prog 18 #[.agg #[.int .i64 r.st, pv]] w fun e w' => ∃ v, e = .returned (.tuple #[v, .int .i64 (boundsR r).2]) ∧ w'.ownsRow w.heap.size 56 2 v (boundsR r).1.length (passC (boundsR r).1) ∧ Below w.heap.size w w' := by
  obtain ⟨st, pts⟩ := r
  simp only at hP ⊢
  obtain ⟨lp, pa, pc, rfl, _, _⟩ := id hP
  have hB : Below w.heap.size w (w.alloc (Obj.cells #[.int .i64 st, .slice pa pts.length pc] 24)) := by go_grown
  have HP := Lib.hid (hP.below hB)
  have HB := Lib.hid hB
  clear hP hB
  go_enter Try.func18, Try.ntmps18
  go_wp2_with fail
  generalize w.alloc (Obj.cells #[.int .i64 st, .slice pa pts.length pc] 24) = w0 at *
  refine (bound_any ⟨st, pts⟩ (.slice pa pts.length pc) w0 HP.out).mono ?_
  rintro e w1 ⟨h | h, hb⟩
  · obtain ⟨h0, g, cap, rfl, hown⟩ := h
    have HB1 := Lib.hid (HB.out.trans (hb.mono HB.out.size))
    have HO := Lib.hid (own_base hown HB.out.size)
    have HBR : Hid (boundsR ⟨st, pts⟩ = (bandsR ⟨st, pts⟩, 0)) := by show _ = _; unfold boundsR; rw [if_pos h0]
    have HL : Hid ((bandsR ⟨st, pts⟩).length = pts.length) := bandsR_length _
    clear hb hown h0 HP HB
    go_wp2_with fail
    go_ret2
    rw [HBR.out]
    refine ⟨_, rfl, ?_, HB1.out.alloc HB1.out.size _⟩
    show World.ownsRow _ _ _ _ _ (bandsR ⟨st, pts⟩).length _
    rw [HL.out]
    exact HO.out.alloc _
  · obtain ⟨h0, rfl⟩ := h
    have HB1 := Lib.hid (HB.out.trans (hb.mono HB.out.size))
    have HBR : Hid (boundsR ⟨st, pts⟩ = ([], boundE ⟨st, pts⟩)) := by show _ = _; unfold boundsR; rw [if_neg h0]
    generalize boundE ⟨st, pts⟩ = er at *
    have tz : (er != 0) = true := by simp [h0]
    clear hb h0 HP HB
    go_wp2_with fail
    go_ret2
    rw [HBR.out]
    exact ⟨_, rfl, World.ownsRow_nil .., HB1.out.alloc HB1.out.size _⟩
end Go.Proofs.Ytnciomoapajonaa
