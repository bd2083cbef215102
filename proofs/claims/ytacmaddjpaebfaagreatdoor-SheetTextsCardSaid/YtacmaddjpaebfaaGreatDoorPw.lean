/- Proof and Wrong of package sheet. -/
import Derived.Test.YtacmaddjpaebfaaGreatDoorFewest
set_option linter.unusedSimpArgs false
set_option linter.unusedVariables false
namespace Go.Proofs.YtacmaddjpaebfaaGreatDoor
open Go Go.RowKit Hs Dc

theorem havK_mem (l : List Note) (list : List Int) (inn : Bool) (k : Nat) : ∀ x, x ∈ havK l list inn k → x ∈ l := by
  induction k with
  | zero => intro x hx; simp [havK] at hx
  | succ k ih =>
    intro x hx
    unfold havK at hx
    split at hx
    · rw [List.mem_append] at hx
      rcases hx with hx | hx
      · exact ih x hx
      · simp at hx; exact List.mem_of_getElem? hx
    · exact ih x hx

/-- What the two closures tell. -/
noncomputable def proofG (s : Sheet) (list : List Int) : Bool := !fitB s.iv 0 (havK s.notes list true s.notes.length)
noncomputable def wrongG (s : Sheet) (list : List Int) : Bool := fitB s.iv 0 (havK s.notes list false s.notes.length)

set_option maxRecDepth 100000 in
set_option maxHeartbeats 1000000 in
theorem Proof1_any (s : Sheet) (pa : Option Addr) (pn pc : Nat) (nv lv : Value) (list : List Int) (Bl : Nat) (w : World) (hN : NotesAt w.heap.size w nv s.notes) (hL : IntsAt w lv list) (hv : ValidS s)
    (hA : w.heap[Bl]? = some (.cells #[.int .i64 s.iv, .slice pa pn pc, nv, .int .i64 0] 80 (0, 0))) :
    Calls Tryz.prog 76 #[lv, .pointer (some ⟨Bl, 0, none⟩)] w fun e w' => e = .returned (.bool (proofG s list)) ∧ Below w.heap.size w w' := by
  obtain ⟨iv, pts, notes⟩ := s
  simp only at hN hA ⊢
  have a0 := cellOf hA 0 _ rfl
  have a1 := cellOf hA 1 _ rfl
  have a2 := cellOf hA 2 _ rfl
  have a3 := cellOf hA 3 _ rfl
  have hh := having_any iv 0 pa pn pc nv lv true notes list w hv.nn hN hL
  have HH := Lib.hid hh
  have HV := Lib.hid hv
  have HP : Hid (proofG ⟨iv, pts, notes⟩ list = !fitB iv 0 (havK notes list true notes.length)) := rfl
  clear hh hv hN hL hA
  go_enter Tryz.func76, Tryz.ntmps76
  go_wp2_with fail
  refine HH.out.mono ?_
  rintro e w1 ⟨v1, rfl, hN1, hb1⟩
  obtain ⟨_, qa, qc, rfl, _⟩ := id hN1
  have hf := fits_any iv 0 pa qa pn pc qc (havK notes list true notes.length) w1 ⟨by omega, by omega⟩ ⟨HV.out.iv1, HV.out.iv2⟩ (fun x hx => HV.out.ok x (havK_mem _ _ _ _ x hx)) hN1
  have HF := Lib.hid hf
  have HB1 := Lib.hid hb1
  clear hf hN1 a0 a1 a2 a3 hb1
  generalize fitB iv 0 (havK notes list true notes.length) = r at *
  go_wp2_with fail
  refine HF.out.mono ?_
  rintro e w2 ⟨rfl, hb2⟩
  have hB2 := HB1.out.trans (hb2.mono HB1.out.size)
  clear hb2
  go_wp2
  go_ret
  exact ⟨by rw [HP.out]; rfl, hB2⟩

set_option maxRecDepth 100000 in
set_option maxHeartbeats 1000000 in
theorem Wrong1_any (s : Sheet) (pa : Option Addr) (pn pc : Nat) (nv lv : Value) (list : List Int) (Bl : Nat) (w : World) (hN : NotesAt w.heap.size w nv s.notes) (hL : IntsAt w lv list) (hv : ValidS s)
    (hA : w.heap[Bl]? = some (.cells #[.int .i64 s.iv, .slice pa pn pc, nv, .int .i64 0] 80 (0, 0))) :
    Calls Tryz.prog 79 #[lv, .pointer (some ⟨Bl, 0, none⟩)] w fun e w' => e = .returned (.bool (wrongG s list)) ∧ Below w.heap.size w w' := by
  obtain ⟨iv, pts, notes⟩ := s
  simp only at hN hA ⊢
  have a0 := cellOf hA 0 _ rfl
  have a1 := cellOf hA 1 _ rfl
  have a2 := cellOf hA 2 _ rfl
  have a3 := cellOf hA 3 _ rfl
  have hh := having_any iv 0 pa pn pc nv lv false notes list w hv.nn hN hL
  have HH := Lib.hid hh
  have HV := Lib.hid hv
  have HP : Hid (wrongG ⟨iv, pts, notes⟩ list = fitB iv 0 (havK notes list false notes.length)) := rfl
  clear hh hv hN hL hA
  go_enter Tryz.func79, Tryz.ntmps79
  go_wp2_with fail
  refine HH.out.mono ?_
  rintro e w1 ⟨v1, rfl, hN1, hb1⟩
  obtain ⟨_, qa, qc, rfl, _⟩ := id hN1
  have hf := fits_any iv 0 pa qa pn pc qc (havK notes list false notes.length) w1 ⟨by omega, by omega⟩ ⟨HV.out.iv1, HV.out.iv2⟩ (fun x hx => HV.out.ok x (havK_mem _ _ _ _ x hx)) hN1
  have HF := Lib.hid hf
  have HB1 := Lib.hid hb1
  clear hf hN1 a0 a1 a2 a3 hb1
  generalize fitB iv 0 (havK notes list false notes.length) = r at *
  go_wp2_with fail
  refine HF.out.mono ?_
  rintro e w2 ⟨rfl, hb2⟩
  have hB2 := HB1.out.trans (hb2.mono HB1.out.size)
  clear hb2
  go_wp2
  go_ret
  exact ⟨by rw [HP.out]; rfl, hB2⟩

/-- What Proof and Wrong answer. -/
noncomputable def proofL (s : Sheet) : List Int := if errS s = 0 then (if fitB s.iv 0 s.notes then [] else fewS s.notes.length (proofG s)) else []
noncomputable def proofE (s : Sheet) : Int := if errS s = 0 then (if fitB s.iv 0 s.notes then 4 else 0) else errS s
noncomputable def wrongL (s : Sheet) : List Int := if errS s = 0 then fewS s.notes.length (wrongG s) else []

set_option maxRecDepth 100000 in
set_option maxHeartbeats 1000000 in
theorem Wrong_any (s : Sheet) (pv nv : Value) (w : World) (hS : SheetAt w.heap.size w pv nv s) :
    Calls Tryz.prog 32 #[.agg #[.int .i64 s.iv, pv, nv]] w fun e w' => ∃ v, e = .returned (.tuple #[v, .int .i64 (errS s)]) ∧ w'.ownsRow w.heap.size 3 1 v (wrongL s).length ((wrongL s).map (Value.int .i64)) ∧ Below w.heap.size w w' := by
  obtain ⟨iv, pts, notes⟩ := s
  obtain ⟨hP, hN, hsz⟩ := id hS
  obtain ⟨lp, pa, pc, rfl, _⟩ := id hP
  obtain ⟨ln, na, nc, rfl, _⟩ := id hN
  simp only at hP hN hsz lp ln ⊢
  have HS := Lib.hid hS
  clear hP hN hsz hS
  have B0 : Below w.heap.size w (w.alloc (Obj.cells #[.int .i64 iv, .slice pa pts.length pc, .slice na notes.length nc] 25)) := by go_grown
  have hc := check_any ⟨iv, pts, notes⟩ (.slice pa pts.length pc) (.slice na notes.length nc) (w.alloc (Obj.cells #[.int .i64 iv, .slice pa pts.length pc, .slice na notes.length nc] 25)) ((HS.out.below B0).mono B0.size)
  have HC := Lib.hid hc
  clear hc
  go_enter Tryz.func32, Tryz.ntmps32
  go_wp2_with fail
  refine HC.out.mono ?_
  rintro e w1 ⟨rfl, hb1⟩
  have hB1 := B0.trans (hb1.mono B0.size)
  have hA := (hb1.block w.heap.size (by simp)).trans (heap_alloc_new w (Obj.cells #[.int .i64 iv, .slice pa pts.length pc, .slice na notes.length nc] 25))
  obtain ⟨p, q, r, hpq⟩ : ∃ p q r, Hid (checkS ⟨iv, pts, notes⟩ = (p, q, r)) := ⟨_, _, _, rfl⟩
  rw [hpq.out]
  have HE : Hid (errS ⟨iv, pts, notes⟩ = r) := by show _ = _; unfold errS; rw [hpq.out]
  have hlt := lt_of_block hA
  clear hb1 B0 HC
  by_cases hr : r = 0
  · have tr : (r != 0) = false := by simp [hr]
    have hv := (check_valid ⟨iv, pts, notes⟩).1 (by rw [hpq.out]; exact hr)
    have a0 := cellOf hA 0 _ rfl
    have a1 := cellOf hA 1 _ rfl
    have a2 := cellOf hA 2 _ rfl
    have hHB2 : Below w.heap.size w (w1.alloc (Obj.cells #[.int .i64 iv, .slice pa pts.length pc, .slice na notes.length nc, .int .i64 0] 80)) := hB1.alloc hB1.size _
    have hL2 := heap_alloc_new w1 (Obj.cells #[.int .i64 iv, .slice pa pts.length pc, .slice na notes.length nc, .int .i64 0] 80)
    have hfw := fewest_any 79 #[.pointer (some ⟨w1.heap.size, 0, none⟩)] (wrongG ⟨iv, pts, notes⟩) notes.length (w1.alloc (Obj.cells #[.int .i64 iv, .slice pa pts.length pc, .slice na notes.length nc, .int .i64 0] 80)) hv.nn (fun _ _ => by rfl)
      (fun wr lv l hb hl => Wrong1_any ⟨iv, pts, notes⟩ pa pts.length pc (.slice na notes.length nc) lv l w1.heap.size wr ((((HS.out.notes.below hHB2).mono hHB2.size).below hb).mono hb.size) hl hv ((hb.block _ (by simp)).trans hL2))
    have HFW := Lib.hid hfw
    have HR := Lib.hid hr
    have HB2 := Lib.hid hHB2
    have HW : Hid (wrongL ⟨iv, pts, notes⟩ = fewS notes.length (wrongG ⟨iv, pts, notes⟩)) := by show _ = _; unfold wrongL; rw [if_pos (HE.out.trans hr)]
    clear hr hfw hv hL2 hHB2
    generalize fewS notes.length (wrongG ⟨iv, pts, notes⟩) = L at *
    go_wp2_with fail
    refine HFW.out.mono ?_
    rintro e w3 ⟨v, rfl, ho, hb3⟩
    have hB3 := HB2.out.trans (hb3.mono HB2.out.size)
    have HO := Lib.hid (own_base ho HB2.out.size)
    clear hb3 ho a0 a1 a2 hA
    go_wp2
    go_ret2
    exact ⟨v, by rw [HE.out, HR.out]; rfl, by rw [HW.out]; exact HO.out, hB3⟩
  · have tr : (r != 0) = true := by simp [hr]
    have HW : Hid (wrongL ⟨iv, pts, notes⟩ = []) := by show _ = _; unfold wrongL; rw [if_neg (fun e => hr (HE.out.symm.trans e))]
    clear hr
    go_wp2
    go_ret2
    exact ⟨.slice none 0 0, by rw [HE.out]; rfl, by rw [HW.out]; exact World.ownsRow_nil _ _ _ _, hB1⟩

set_option maxRecDepth 100000 in
set_option maxHeartbeats 1000000 in
theorem Proof_any (s : Sheet) (pv nv : Value) (w : World) (hS : SheetAt w.heap.size w pv nv s) :
    Calls Tryz.prog 30 #[.agg #[.int .i64 s.iv, pv, nv]] w fun e w' => ∃ v, e = .returned (.tuple #[v, .int .i64 (proofE s)]) ∧ w'.ownsRow w.heap.size 3 1 v (proofL s).length ((proofL s).map (Value.int .i64)) ∧ Below w.heap.size w w' := by
  obtain ⟨iv, pts, notes⟩ := s
  obtain ⟨hP, hN, hsz⟩ := id hS
  obtain ⟨lp, pa, pc, rfl, _⟩ := id hP
  obtain ⟨ln, na, nc, rfl, _⟩ := id hN
  simp only at hP hN hsz lp ln ⊢
  have HS := Lib.hid hS
  clear hP hN hsz hS
  have B0 : Below w.heap.size w (w.alloc (Obj.cells #[.int .i64 iv, .slice pa pts.length pc, .slice na notes.length nc] 25)) := by go_grown
  have hc := check_any ⟨iv, pts, notes⟩ (.slice pa pts.length pc) (.slice na notes.length nc) (w.alloc (Obj.cells #[.int .i64 iv, .slice pa pts.length pc, .slice na notes.length nc] 25)) ((HS.out.below B0).mono B0.size)
  have HC := Lib.hid hc
  clear hc
  go_enter Tryz.func30, Tryz.ntmps30
  go_wp2_with fail
  refine HC.out.mono ?_
  rintro e w1 ⟨rfl, hb1⟩
  have hB1 := B0.trans (hb1.mono B0.size)
  have hA := (hb1.block w.heap.size (by simp)).trans (heap_alloc_new w (Obj.cells #[.int .i64 iv, .slice pa pts.length pc, .slice na notes.length nc] 25))
  obtain ⟨p, q, r, hpq⟩ : ∃ p q r, Hid (checkS ⟨iv, pts, notes⟩ = (p, q, r)) := ⟨_, _, _, rfl⟩
  rw [hpq.out]
  have HE : Hid (errS ⟨iv, pts, notes⟩ = r) := by show _ = _; unfold errS; rw [hpq.out]
  have hlt := lt_of_block hA
  clear hb1 B0 HC
  by_cases hr : r = 0
  · have tr : (r != 0) = false := by simp [hr]
    have hv := (check_valid ⟨iv, pts, notes⟩).1 (by rw [hpq.out]; exact hr)
    have a0 := cellOf hA 0 _ rfl
    have a1 := cellOf hA 1 _ rfl
    have a2 := cellOf hA 2 _ rfl
    have hHB2 : Below w.heap.size w (w1.alloc (Obj.cells #[.int .i64 iv, .slice pa pts.length pc, .slice na notes.length nc, .int .i64 0] 80)) := hB1.alloc hB1.size _
    have hL2 := heap_alloc_new w1 (Obj.cells #[.int .i64 iv, .slice pa pts.length pc, .slice na notes.length nc, .int .i64 0] 80)
    have hf := fits_any iv 0 pa na pts.length pc nc notes _ ⟨by omega, by omega⟩ ⟨hv.iv1, hv.iv2⟩ hv.ok ((HS.out.notes.below hHB2).mono hHB2.size)
    have HF := Lib.hid hf
    have HB2 := Lib.hid hHB2
    have HL2 := Lib.hid hL2
    have HR := Lib.hid hr
    have HV := Lib.hid hv
    have hAlt : w.heap.size < w1.heap.size := hlt
    clear hr hv hf hL2 hHB2
    go_wp2_with fail
    refine HF.out.mono ?_
    rintro e w2 ⟨rfl, hb2⟩
    have hB2 := HB2.out.trans (hb2.mono HB2.out.size)
    have hL3 := (hb2.block _ (by simp)).trans HL2.out
    have hA3 := (hb2.block w.heap.size (by simp; omega)).trans ((Below.heap_alloc w1 _ _ hlt).trans hA)
    clear hb2 a0 a1 a2 HF hA
    have a2 := cellOf hA3 2 _ rfl
    cases hfit : fitB iv 0 notes
    · have hfw := fewest_any 76 #[.pointer (some ⟨w1.heap.size, 0, none⟩)] (proofG ⟨iv, pts, notes⟩) notes.length w2 HV.out.nn (fun _ _ => by rfl)
        (fun wr lv l hb hl => Proof1_any ⟨iv, pts, notes⟩ pa pts.length pc (.slice na notes.length nc) lv l w1.heap.size wr ((((HS.out.notes.below hB2).mono hB2.size).below hb).mono hb.size) hl HV.out ((hb.block _ (lt_of_block hL3)).trans hL3))
      have HFW := Lib.hid hfw
      have HW : Hid (proofL ⟨iv, pts, notes⟩ = fewS notes.length (proofG ⟨iv, pts, notes⟩)) := by show _ = _; unfold proofL; rw [if_pos (HE.out.trans HR.out), if_neg (by rw [hfit]; decide)]
      have HW2 : Hid (proofE ⟨iv, pts, notes⟩ = 0) := by show _ = _; unfold proofE; rw [if_pos (HE.out.trans HR.out), if_neg (by rw [hfit]; decide)]
      clear hfw hL3 hA3 hfit
      generalize fewS notes.length (proofG ⟨iv, pts, notes⟩) = L at *
      go_wp2_with fail
      refine HFW.out.mono ?_
      rintro e w3 ⟨v, rfl, ho, hb3⟩
      have hB3 := hB2.trans (hb3.mono hB2.size)
      have HO := Lib.hid (own_base ho hB2.size)
      clear hb3 ho a2
      go_wp2
      go_ret2
      exact ⟨v, by rw [HW2.out]; rfl, by rw [HW.out]; exact HO.out, hB3⟩
    · have HW : Hid (proofL ⟨iv, pts, notes⟩ = []) := by show _ = _; unfold proofL; rw [if_pos (HE.out.trans HR.out), if_pos hfit]
      have HW2 : Hid (proofE ⟨iv, pts, notes⟩ = 4) := by show _ = _; unfold proofE; rw [if_pos (HE.out.trans HR.out), if_pos hfit]
      clear hL3 hA3 hfit
      go_wp2
      go_ret2
      exact ⟨.slice none 0 0, by rw [HW2.out]; rfl, by rw [HW.out]; exact World.ownsRow_nil _ _ _ _, hB2⟩
  · have tr : (r != 0) = true := by simp [hr]
    have HW : Hid (proofL ⟨iv, pts, notes⟩ = []) := by show _ = _; unfold proofL; rw [if_neg (fun e => hr (HE.out.symm.trans e))]
    have HW2 : Hid (proofE ⟨iv, pts, notes⟩ = r) := by show _ = _; unfold proofE; rw [if_neg (fun e => hr (HE.out.symm.trans e)), HE.out]
    clear hr
    go_wp2
    go_ret2
    exact ⟨.slice none 0 0, by rw [HW2.out]; rfl, by rw [HW.out]; exact World.ownsRow_nil _ _ _ _, hB1⟩
end Go.Proofs.YtacmaddjpaebfaaGreatDoor
