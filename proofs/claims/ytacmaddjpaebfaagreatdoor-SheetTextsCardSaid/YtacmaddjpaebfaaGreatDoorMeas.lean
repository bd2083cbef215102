/- Valid sheets; measured and Fits of package sheet. -/
import Derived.Test.YtacmaddjpaebfaaGreatDoorCheck
import Derived.Test.YtacmaddjpaebfaaGreatDoorFit
set_option linter.unusedSimpArgs false
set_option linter.unusedVariables false
namespace Go.Proofs.YtacmaddjpaebfaaGreatDoor
open Go Go.RowKit Hs Dc

theorem firstBad_zero (f : Nat → Int) (n : Nat) (h : (firstBad f n).2 = 0) : ∀ j, j < n → f j = 0 := by
  unfold firstBad at h
  cases hf : (List.range n).find? (fun k => f k != 0) with
  | none =>
    rw [List.find?_eq_none] at hf
    intro j hj
    have := hf j (by simpa using hj)
    simpa using this
  | some k =>
    rw [hf] at h
    have := List.find?_some hf
    simp at h this
    exact absurd h this
/-- What a sheet without an error is. -/
structure ValidS (s : Sheet) : Prop where
  iv1 : 1 ≤ s.iv
  iv2 : s.iv ≤ 1000
  np1 : 1 ≤ s.pts.length
  np8 : s.pts.length ≤ 8
  nn : s.notes.length ≤ 12
  names : ∀ k, k < s.pts.length → ptErr s.pts k = 0
  errs : ∀ k, k < s.notes.length → ntErr s.iv s.pts.length s.notes k = 0
theorem ValidS.ok {s : Sheet} (h : ValidS s) : ∀ x, x ∈ s.notes → NoteOk s.iv x := by
  intro x hx
  obtain ⟨k, hk, rfl⟩ := List.getElem_of_mem hx
  have := h.errs k hk
  unfold ntErr at this
  rw [List.getElem?_eq_getElem hk] at this
  exact noteOk_of s.iv s.pts.length _ h.iv1 (by have := h.np8; omega) this
theorem check_valid (s : Sheet) : (checkS s).2.2 = 0 ↔ ValidS s := by
  unfold checkS
  split
  · rename_i h
    exact ⟨(fun e => by simp at e), (fun v => absurd ⟨v.iv1, v.iv2⟩ h)⟩
  split
  · rename_i h
    exact ⟨(fun e => by simp at e), (fun v => absurd ⟨v.np1, v.np8⟩ h)⟩
  split
  · rename_i h
    refine ⟨(fun e => absurd e h), (fun v => ?_)⟩
    rw [firstBad_none _ _ v.names] at h
    exact absurd rfl h
  split
  · rename_i h
    exact ⟨(fun e => by simp at e), (fun v => by have := v.nn; omega)⟩
  split
  · rename_i h
    refine ⟨(fun e => absurd e h), (fun v => ?_)⟩
    rw [firstBad_none _ _ v.errs] at h
    exact absurd rfl h
  · rename_i h1 h2 h3 h4 h5
    refine ⟨(fun _ => ⟨by omega, by omega, by omega, by omega, by omega, firstBad_zero _ _ (by simpa using h3), firstBad_zero _ _ (by simpa using h5)⟩), (fun _ => rfl)⟩

/-- The error of a sheet. -/
def errS (s : Sheet) : Int := (checkS s).2.2
/-- What Fits answers. -/
noncomputable def fitsS (s : Sheet) : Bool := if errS s = 0 then fitB s.iv 0 s.notes else false

set_option maxRecDepth 100000 in
set_option maxHeartbeats 1000000 in
theorem Fits_any (s : Sheet) (pv nv : Value) (w : World) (hS : SheetAt w.heap.size w pv nv s) :
    Calls Tryz.prog 20 #[.agg #[.int .i64 s.iv, pv, nv]] w fun e w' => e = .returned (.tuple #[.bool (fitsS s), .int .i64 (errS s)]) ∧ Below w.heap.size w w' := by
  obtain ⟨iv, pts, notes⟩ := s
  obtain ⟨hP, hN, hsz⟩ := id hS
  obtain ⟨lp, pa, pc, rfl, _⟩ := id hP
  obtain ⟨ln, na, nc, rfl, _⟩ := id hN
  simp only at hP hN hsz lp ln ⊢
  have HS := Lib.hid hS
  have HN := Lib.hid hN
  clear hP hN hsz hS
  have B0 : Below w.heap.size w (w.alloc (Obj.cells #[.int .i64 iv, .slice pa pts.length pc, .slice na notes.length nc] 25)) := by go_grown
  have hc := check_any ⟨iv, pts, notes⟩ (.slice pa pts.length pc) (.slice na notes.length nc) (w.alloc (Obj.cells #[.int .i64 iv, .slice pa pts.length pc, .slice na notes.length nc] 25)) ((HS.out.below B0).mono B0.size)
  have HC := Lib.hid hc
  clear hc
  go_enter Tryz.func20, Tryz.ntmps20
  go_wp2_with fail
  refine HC.out.mono ?_
  rintro e w1 ⟨rfl, hb1⟩
  have hB1 := B0.trans (hb1.mono B0.size)
  have hA := (hb1.block w.heap.size (by simp)).trans (heap_alloc_new w (Obj.cells #[.int .i64 iv, .slice pa pts.length pc, .slice na notes.length nc] 25))
  have a0 := cellOf hA 0 _ rfl
  have a1 := cellOf hA 1 _ rfl
  have a2 := cellOf hA 2 _ rfl
  obtain ⟨p, q, r, hpq⟩ : ∃ p q r, Hid (checkS ⟨iv, pts, notes⟩ = (p, q, r)) := ⟨_, _, _, rfl⟩
  rw [hpq.out]
  have HE : Hid (errS ⟨iv, pts, notes⟩ = r) := by show _ = _; unfold errS; rw [hpq.out]
  clear hb1 hA B0 HC
  by_cases hr : r = 0
  · have tr : (r != 0) = false := by simp [hr]
    have hv := (check_valid ⟨iv, pts, notes⟩).1 (by rw [hpq.out]; exact hr)
    have hfit := fits_any iv 0 pa na pts.length pc nc notes w1 ⟨by omega, by omega⟩ ⟨hv.iv1, hv.iv2⟩ hv.ok ((HN.out.below hB1).mono hB1.size)
    have HF := Lib.hid hfit
    have HZ : Hid (fitsS ⟨iv, pts, notes⟩ = fitB iv 0 notes ∧ r = 0) := ⟨by unfold fitsS; rw [HE.out, if_pos hr], hr⟩
    clear hr hv hfit
    go_wp2_with fail
    refine HF.out.mono ?_
    rintro e w2 ⟨rfl, hb2⟩
    have hB2 := hB1.trans (hb2.mono hB1.size)
    clear hb2 hB1 a0 a1 a2
    go_wp2
    go_ret2
    exact ⟨by rw [HZ.out.1, HE.out, HZ.out.2]; rfl, hB2⟩
  · have tr : (r != 0) = true := by simp [hr]
    have HZ : Hid (fitsS ⟨iv, pts, notes⟩ = false) := by show _ = _; unfold fitsS; rw [HE.out, if_neg hr]
    clear hr
    go_wp2
    go_ret2
    exact ⟨by rw [HZ.out, HE.out]; rfl, hB1⟩

/-- What measured answers: a matrix, and an error. -/
noncomputable def measM (s : Sheet) : List Int := if errS s = 0 then (if fitB s.iv 0 s.notes then farM s.iv 0 s.notes else z81) else z81
noncomputable def measE (s : Sheet) : Int := if errS s = 0 then (if fitB s.iv 0 s.notes then 0 else 9) else errS s
theorem measM_length (s : Sheet) : (measM s).length = 81 := by
  unfold measM
  split
  · split
    · exact tightR_length _ (start_apL _)
    · rfl
  · rfl

set_option maxRecDepth 4000 in
set_option maxHeartbeats 1000000 in
theorem measured_any (s : Sheet) (pv nv : Value) (w : World) (hS : SheetAt w.heap.size w pv nv s) :
    Calls Tryz.prog 69 #[.agg #[.int .i64 s.iv, pv, nv]] w fun e w' => e = .returned (.tuple #[.agg (cs (measM s)), .int .i64 (measE s)]) ∧ Below w.heap.size w w' := by
  have hz := (zero_of_info zeroInfo).1
  obtain ⟨iv, pts, notes⟩ := s
  obtain ⟨hP, hN, hsz⟩ := id hS
  obtain ⟨lp, pa, pc, rfl, _⟩ := id hP
  obtain ⟨ln, na, nc, rfl, _⟩ := id hN
  simp only at hP hN hsz lp ln ⊢
  have HS := Lib.hid hS
  have HN := Lib.hid hN
  clear hP hN hsz hS
  have B0 : Below w.heap.size w ((w.alloc (Obj.cells #[.int .i64 iv, .slice pa pts.length pc, .slice na notes.length nc] 25)).alloc (Obj.cells (cs z81) 99)) := by go_grown
  have hc := check_any ⟨iv, pts, notes⟩ (.slice pa pts.length pc) (.slice na notes.length nc) ((w.alloc (Obj.cells #[.int .i64 iv, .slice pa pts.length pc, .slice na notes.length nc] 25)).alloc (Obj.cells (cs z81) 99)) ((HS.out.below B0).mono B0.size)
  have HC := Lib.hid hc
  clear hc
  go_enter Tryz.func69, Tryz.ntmps69
  go_wp2_with fail
  refine HC.out.mono ?_
  rintro e w1 ⟨rfl, hb1⟩
  have hB1 := B0.trans (hb1.mono B0.size)
  have hA := (hb1.block w.heap.size (by simp; omega)).trans (heap_alloc2_old w (Obj.cells #[.int .i64 iv, .slice pa pts.length pc, .slice na notes.length nc] 25) (Obj.cells (cs z81) 99))
  have hZ : FarBlk w1 (w.heap.size + 1) z81 := (hb1.block (w.heap.size + 1) (by simp)).trans (heap_alloc2_new w _ _)
  have a0 := cellOf hA 0 _ rfl
  have a1 := cellOf hA 1 _ rfl
  have a2 := cellOf hA 2 _ rfl
  obtain ⟨p, q, r, hpq⟩ : ∃ p q r, Hid (checkS ⟨iv, pts, notes⟩ = (p, q, r)) := ⟨_, _, _, rfl⟩
  rw [hpq.out]
  have HE : Hid (errS ⟨iv, pts, notes⟩ = r) := by show _ = _; unfold errS; rw [hpq.out]
  clear hb1 hA B0 HC
  by_cases hr : r = 0
  · have tr : (r != 0) = false := by simp [hr]
    have hv := (check_valid ⟨iv, pts, notes⟩).1 (by rw [hpq.out]; exact hr)
    have hap := apart_any iv 0 pa pts.length pc (.slice na notes.length nc) notes w1 ⟨by omega, by omega⟩ ⟨hv.iv1, hv.iv2⟩ hv.ok ((HN.out.below hB1).mono hB1.size)
    have HF := Lib.hid hap
    have HR := Lib.hid hr
    have HML := Lib.hid (measM_length ⟨iv, pts, notes⟩)
    have HFL : Hid ((farM iv 0 notes).length = 81) := tightR_length _ (start_apL _)
    clear hr hv hap
    go_wp2_with fail
    refine HF.out.mono ?_
    rintro e w2 ⟨rfl, hb2⟩
    have hB2 := hB1.trans (hb2.mono hB1.size)
    have hZ2 := hZ.below hb2 hZ.lt
    have hw2 := hb2.size
    have hZlt := hZ.lt
    clear hb2 hB1 hZ a0 a1 a2 HF
    obtain ⟨M, HM, hML⟩ : ∃ M, Hid (M = farM iv 0 notes) ∧ Hid (M.length = 81) := ⟨_, rfl, HFL.out⟩
    rw [← HM.out]
    have n1 : FarBlk (w2.alloc (Obj.cells (cs z81) 99)) w2.heap.size z81 := FarBlk.new w2 z81
    have g1 := n1.put M
    have g2 := (hZ2.alloc (Obj.cells (cs z81) 99)).putOther (b' := w2.heap.size) (by omega) M
    have gB := below_setRow (hB2.alloc hB2.size (Obj.cells (cs z81) 99)) hB2.size (cs M)
    cases hf : fitB iv 0 notes
    · have HMM : Hid (measM ⟨iv, pts, notes⟩ = z81 ∧ measE ⟨iv, pts, notes⟩ = 9) := by
        unfold measM measE
        rw [HE.out, if_pos HR.out, if_pos HR.out, hf]
        exact ⟨rfl, rfl⟩
      clear hf
      go_wp2_with (first
        | (refine far_store rfl (.tmp 7) (.tmp 23) rfl w2.heap.size rfl M z81 rfl n1 hML.out rfl rfl ?_)
        | (refine far_store rfl (.tmp 2) (.tmp 27) rfl (w.heap.size + 1) rfl z81 z81 rfl g2 rfl rfl rfl ?_
           repeat (first | go_values | go_skip | go_guarded | go_step | go_upon)
           refine Hid.out ?_))
      unfold Hid
      refine bodyPost_ret (far_result2 rfl _ _ (w.heap.size + 1) z81 rfl (g2.put _) rfl) rfl ⟨?_, below_setRow gB (by omega) _⟩
      rw [HMM.out.1, HMM.out.2]; rfl
    · have HMM : Hid (measM ⟨iv, pts, notes⟩ = M ∧ measE ⟨iv, pts, notes⟩ = 0) := by
        unfold measM measE
        rw [HE.out, if_pos HR.out, if_pos HR.out, HM.out]
        exact ⟨if_pos hf, if_pos hf⟩
      clear hf
      go_wp2_with (first
        | (refine far_store rfl (.tmp 7) (.tmp 23) rfl w2.heap.size rfl M z81 rfl n1 hML.out rfl rfl ?_)
        | (refine far_load rfl (.tmp 7) rfl w2.heap.size rfl M g1 hML.out ?_)
        | (refine far_store rfl (.tmp 2) (.tmp 28) rfl (w.heap.size + 1) rfl M z81 rfl g2 hML.out rfl rfl ?_
           repeat (first | go_values | go_skip | go_guarded | go_step | go_upon)
           refine Hid.out ?_))
      unfold Hid
      refine bodyPost_ret (far_result2 rfl _ _ (w.heap.size + 1) M rfl (g2.put _) hML.out) rfl ⟨?_, below_setRow gB (by omega) _⟩
      rw [HMM.out.1, HMM.out.2]; rfl
  · have tr : (r != 0) = true := by simp [hr]
    have HMM : Hid (measM ⟨iv, pts, notes⟩ = z81 ∧ measE ⟨iv, pts, notes⟩ = r) := by
      unfold measM measE
      rw [HE.out, if_neg hr, if_neg hr]
      exact ⟨rfl, rfl⟩
    clear hr
    go_wp2_with (first
      | (refine far_store rfl (.tmp 2) (.tmp 17) rfl (w.heap.size + 1) rfl z81 z81 rfl hZ rfl rfl rfl ?_
         repeat (first | go_values | go_skip | go_guarded | go_step | go_upon)
         refine Hid.out ?_))
    unfold Hid
    refine bodyPost_ret (far_result2 rfl _ _ (w.heap.size + 1) z81 rfl (hZ.put _) rfl) rfl ⟨?_, below_setRow hB1 (by omega) _⟩
    rw [HMM.out.1, HMM.out.2]; rfl
end Go.Proofs.YtacmaddjpaebfaaGreatDoor
