/- Wider of package sheet. -/
import Derived.Test.YtacmaddjpaebfaaGreatDoorMeas
import Derived.Test.YtacmaddjpaebfaaGreatDoorSrch
set_option linter.unusedSimpArgs false
set_option linter.unusedVariables false
namespace Go.Proofs.YtacmaddjpaebfaaGreatDoor
open Go Go.RowKit Hs Dc

set_option maxRecDepth 100000 in
set_option maxHeartbeats 1000000 in
theorem Wider1_any (s : Sheet) (pv nv : Value) (Bs : Nat) (by' : Nat) (hby : by' ≤ 9000) (w : World) (hS : SheetAt w.heap.size w pv nv s) (hv : ValidS s)
    (hA : w.heap[Bs]? = some (.cells #[.int .i64 s.iv, pv, nv] 25 (0, 0))) :
    Calls Tryz.prog 81 #[.int .i64 by', .pointer (some ⟨Bs, 0, none⟩)] w fun e w' => e = .returned (.bool (fitB s.iv by' s.notes)) ∧ Below w.heap.size w w' := by
  obtain ⟨iv, pts, notes⟩ := s
  obtain ⟨hP, hN, hsz⟩ := id hS
  obtain ⟨lp, pa, pc, rfl, _⟩ := id hP
  obtain ⟨ln, na, nc, rfl, _⟩ := id hN
  simp only at hP hN hsz lp ln hA ⊢
  have a0 := cellOf hA 0 _ rfl
  have a1 := cellOf hA 1 _ rfl
  have a2 := cellOf hA 2 _ rfl
  have hby' : (by' : Int) ≤ 9000 := by omega
  have HF := fun (w' : World) (hb : Below w.heap.size w w') => fits_any iv by' pa na pts.length pc nc notes w' ⟨by omega, by omega⟩ ⟨hv.iv1, hv.iv2⟩ hv.ok ((hN.below hb).mono hb.size)
  have HFF := Lib.hid HF
  clear HF hP hN hsz hS hA hv
  go_enter Tryz.func81, Tryz.ntmps81
  go_wp2_with fail
  refine (HFF.out _ (by go_grown)).mono ?_
  rintro e w1 ⟨rfl, hb1⟩
  clear a0 a1 a2
  go_wp2
  go_ret
  exact ⟨rfl, by first | exact hb1 | exact (show Below w.heap.size w _ by go_grown).trans (hb1.mono (by simp))⟩

/-- What Wider answers is such a number. -/
def WidIs (s : Sheet) (r : Nat) : Prop := r ≤ 9000 ∧ (∀ t : Nat, t < r → fitB s.iv t s.notes = false) ∧ (r < 9000 → fitB s.iv r s.notes = true)
def WidPost (s : Sheet) (r : Nat) : Prop := if errS s = 0 then WidIs s r else r = 0

set_option maxRecDepth 100000 in
set_option maxHeartbeats 1000000 in
theorem Wider_any (s : Sheet) (pv nv : Value) (w : World) (hS : SheetAt w.heap.size w pv nv s) :
    Calls Tryz.prog 34 #[.agg #[.int .i64 s.iv, pv, nv]] w fun e w' => ∃ r : Nat, e = .returned (.tuple #[.int .i64 r, .int .i64 (errS s)]) ∧ WidPost s r ∧ Below w.heap.size w w' := by
  obtain ⟨iv, pts, notes⟩ := s
  obtain ⟨hP, hN, hsz⟩ := id hS
  obtain ⟨lp, pa, pc, rfl, _⟩ := id hP
  obtain ⟨ln, na, nc, rfl, _⟩ := id hN
  simp only at hP hN hsz lp ln ⊢
  have HS := Lib.hid hS
  clear hP hN hsz hS
  have B0 : Below w.heap.size w (w.alloc (Obj.cells #[.int .i64 iv, .slice pa pts.length pc, .slice na notes.length nc] 25)) := by go_grown
  have hc := check_any ⟨iv, pts, notes⟩ (.slice pa pts.length pc) (.slice na notes.length nc) (w.alloc (Obj.cells #[.int .i64 iv, .slice pa pts.length pc, .slice na notes.length nc] 25)) ((HS.out.below B0).mono B0.size)
  have HC := Lib.hid hc
  clear hc
  go_enter Tryz.func34, Tryz.ntmps34
  go_wp2_with fail
  refine HC.out.mono ?_
  rintro e w1 ⟨rfl, hb1⟩
  have hB1 := B0.trans (hb1.mono B0.size)
  have hA := (hb1.block w.heap.size (by simp)).trans (heap_alloc_new w (Obj.cells #[.int .i64 iv, .slice pa pts.length pc, .slice na notes.length nc] 25))
  obtain ⟨p, q, r, hpq⟩ : ∃ p q r, Hid (checkS ⟨iv, pts, notes⟩ = (p, q, r)) := ⟨_, _, _, rfl⟩
  rw [hpq.out]
  have HE : Hid (errS ⟨iv, pts, notes⟩ = r) := by show _ = _; unfold errS; rw [hpq.out]
  clear hb1 B0 HC
  by_cases hr : r = 0
  · have tr : (r != 0) = false := by simp [hr]
    have hv := (check_valid ⟨iv, pts, notes⟩).1 (by rw [hpq.out]; exact hr)
    have hsr := search_any 81 #[.pointer (some ⟨w.heap.size, 0, none⟩)] 9000 (fun t => fitB iv t notes) w1 (by omega) (fun _ _ => by rfl)
      (fun wr i hi hb => Wider1_any ⟨iv, pts, notes⟩ _ _ w.heap.size i (by omega) wr (((HS.out.below hB1).mono hB1.size |>.below hb).mono hb.size) hv ((hb.block _ (lt_of_block hA)).trans hA))
      (fun a b hab _ h => fitB_mono iv notes (by omega) h)
    have HSR := Lib.hid hsr
    have HR := Lib.hid hr
    clear hr hsr hv
    go_wp2_with fail
    refine HSR.out.mono ?_
    rintro e w2 ⟨k, rfl, hk, hb2⟩
    have hB2 := hB1.trans (hb2.mono hB1.size)
    have HK := Lib.hid hk
    clear hb2 hk
    go_wp2
    go_ret2
    exact ⟨k, by rw [HE.out, HR.out]; rfl, by unfold WidPost; rw [if_pos (HE.out.trans HR.out)]; exact HK.out, hB2⟩
  · have tr : (r != 0) = true := by simp [hr]
    have HR := Lib.hid hr
    clear hr
    go_wp2
    go_ret2
    exact ⟨0, by rw [HE.out]; rfl, by unfold WidPost; rw [if_neg (fun e => HR.out (HE.out.symm.trans e))], hB1⟩
end Go.Proofs.YtacmaddjpaebfaaGreatDoor
