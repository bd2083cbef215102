/- Apart of package sheet. -/
import Derived.Test.YtacmaddjpaebfaaGreatDoorHts
import Derived.Deep.RegionWith
set_option linter.unusedSimpArgs false
set_option linter.unusedVariables false
namespace Go.Proofs.YtacmaddjpaebfaaGreatDoor
open Go Go.RowKit Hs Dc

/-- A span that lies in a cell, and two numbers, as what is returned. -/
theorem span_result3 {fn : Func} {p u v : Tmp} (h : fn.results = #[.cell p 40, .tmp u, .tmp v]) (tmps : Array Value) (w : World) (g : Nat) (x y : Value)
    (hp : tmps.getD p undef = .pointer (some ⟨g, 0, none⟩)) (hg : w.heap[g]? = some (.cells #[x, y] 40 (0, 0))) :
    (results fn tmps).run Tryz.prog w = .ok (.tuple #[.agg #[x, y], tmps.getD u undef, tmps.getD v undef]) w := by
  have := run_loadVar_row (P := Tryz.prog) w g 40 40 #[x, y] (0, 0) _ hg Tryz.underlying40 rfl (by kernel_rfl)
  have hp' : tmps[p]?.getD undef = .pointer (some ⟨g, 0, none⟩) := by simpa using hp
  simp only [results, h]
  simp [Sem.run_bind, Result.andThen, hp', asAddr, this]
theorem span_put {w : World} {g : Nat} {u v : Value} (h : w.heap[g]? = some (.cells #[u, v] 40 (0, 0))) (x y : Value) :
    ((w.setCell ⟨g, 0, none⟩ x).setCell ⟨g, 1, none⟩ y).heap[g]? = some (.cells #[x, y] 40 (0, 0)) := by
  have := heap_setCell_same _ g 1 _ _ y (heap_setCell_same w g 0 _ _ x h)
  simpa using this

/-- What Apart answers. -/
noncomputable def apartS (s : Sheet) (a b : Int) : (Int × Int) × Int × Int :=
  if errS s ≠ 0 then ((0, 0), 0, errS s)
  else if ¬ ((0 ≤ a ∧ a ≤ (s.pts.length : Int) - 1) ∧ 0 ≤ b ∧ b ≤ (s.pts.length : Int) - 1) then ((0, 0), 0, 4)
  else if measE s ≠ 0 then ((0, 0), 0, measE s)
  else
    let lo := -((measM s)[b.toNat * 9 + a.toNat]?.getD 0)
    let hi := (measM s)[a.toNat * 9 + b.toNat]?.getD 0
    ((lo, hi), orderV lo hi, 0)

set_option maxRecDepth 4000 in
set_option maxHeartbeats 1000000 in
theorem Apart_any (s : Sheet) (pv nv : Value) (a b : Int) (w : World) (hS : SheetAt w.heap.size w pv nv s) :
    Calls Tryz.prog 25 #[.agg #[.int .i64 s.iv, pv, nv], .int .i64 a, .int .i64 b] w fun e w' => e = .returned (.tuple #[spanV (apartS s a b).1.1 (apartS s a b).1.2, .int .i64 (apartS s a b).2.1, .int .i64 (apartS s a b).2.2]) ∧ Below w.heap.size w w' := by
  have hz := (zero_of_info zeroInfo).1
  obtain ⟨iv, pts, notes⟩ := s
  obtain ⟨hP, hN, hsz⟩ := id hS
  obtain ⟨lp, pa, pc, rfl, _⟩ := id hP
  obtain ⟨ln, na, nc, rfl, _⟩ := id hN
  simp only at hP hN hsz lp ln ⊢
  have HS := Lib.hid hS
  clear hP hN hsz hS
  have lp' : (pts.length : Int) ≤ 4611686018427387904 := by omega
  have B0 : Below w.heap.size w ((w.alloc (Obj.cells #[.int .i64 iv, .slice pa pts.length pc, .slice na notes.length nc] 25)).alloc (Obj.cells #[.int .i64 0, .int .i64 0] 40)) := by go_grown
  have hc := check_any ⟨iv, pts, notes⟩ (.slice pa pts.length pc) (.slice na notes.length nc) ((w.alloc (Obj.cells #[.int .i64 iv, .slice pa pts.length pc, .slice na notes.length nc] 25)).alloc (Obj.cells #[.int .i64 0, .int .i64 0] 40)) ((HS.out.below B0).mono B0.size)
  have HC := Lib.hid hc
  clear hc
  go_enter Tryz.func25, Tryz.ntmps25
  go_wp2_with fail
  refine HC.out.mono ?_
  rintro e w1 ⟨rfl, hb1⟩
  have hB1 := B0.trans (hb1.mono B0.size)
  have hA := (hb1.block w.heap.size (by simp; omega)).trans (heap_alloc2_old w (Obj.cells #[.int .i64 iv, .slice pa pts.length pc, .slice na notes.length nc] 25) (Obj.cells #[.int .i64 0, .int .i64 0] 40))
  have hO := (hb1.block (w.heap.size + 1) (by simp)).trans (heap_alloc2_new w (Obj.cells #[.int .i64 iv, .slice pa pts.length pc, .slice na notes.length nc] 25) (Obj.cells #[.int .i64 0, .int .i64 0] 40))
  have a0 := cellOf hA 0 _ rfl
  have a1 := cellOf hA 1 _ rfl
  have a2 := cellOf hA 2 _ rfl
  have o0 := cellOf hO 0 _ rfl
  have o1 := cellOf hO 1 _ rfl
  have q0 := frozen_of_row w1 (w.heap.size + 1) 0 _ _ hO
  have q1 := frozen_of_row w1 (w.heap.size + 1) 1 _ _ hO
  obtain ⟨p, q, r, hpq⟩ : ∃ p q r, Hid (checkS ⟨iv, pts, notes⟩ = (p, q, r)) := ⟨_, _, _, rfl⟩
  rw [hpq.out]
  have HE : Hid (errS ⟨iv, pts, notes⟩ = r) := by show _ = _; unfold errS; rw [hpq.out]
  clear hb1 B0 HC
  by_cases hr : r = 0
  · have tr : (r != 0) = false := by simp [hr]
    have HV := Lib.hid ((check_valid ⟨iv, pts, notes⟩).1 (by rw [hpq.out]; exact hr))
    have HR := Lib.hid hr
    clear hr
    go_wp2_with fail
    refine (within_2 _ _ _ _ _ _ _ (by simp)).mono ?_
    rintro e w' ⟨rfl, rfl⟩
    have hA' := (Below.heap_alloc w1 (Obj.cells #[.int .i64 a, .int .i64 b] 3) _ (lt_of_block hA)).trans hA
    have hO' := (Below.heap_alloc w1 (Obj.cells #[.int .i64 a, .int .i64 b] 3) _ (lt_of_block hO)).trans hO
    have hB2 := hB1.alloc hB1.size (Obj.cells #[.int .i64 a, .int .i64 b] 3)
    clear a0 a1 a2 o0 o1 q0 q1 hA hO hB1
    generalize w1.alloc (Obj.cells #[.int .i64 a, .int .i64 b] 3) = W at *
    have a0 := cellOf hA' 0 _ rfl
    have a1 := cellOf hA' 1 _ rfl
    have a2 := cellOf hA' 2 _ rfl
    have o0 := cellOf hO' 0 _ rfl
    have o1 := cellOf hO' 1 _ rfl
    have q0 := frozen_of_row W (w.heap.size + 1) 0 _ _ hO'
    have q1 := frozen_of_row W (w.heap.size + 1) 1 _ _ hO'
    cases hw : withinB 0 ((pts.length : Int) - 1) [a, b]
    · have HA : Hid (apartS ⟨iv, pts, notes⟩ a b = ((0, 0), 0, 4)) := by
        show _ = _
        unfold apartS
        rw [HE.out, if_neg (by rw [HR.out]; simp), if_pos]
        rw [← within2 0 ((pts.length : Int) - 1) a b, hw]
        simp
      clear hw hA'
      have HO := Lib.hid (span_put hO' (.int .i64 0) (.int .i64 0))
      clear hO'
      go_wp2
      exact bodyPost_ret (span_result3 rfl _ _ _ _ _ rfl HO.out) rfl ⟨by rw [HA.out]; rfl, (hB2.setCell (by simp) _).setCell (by simp) _⟩
    · have hin := (within2 0 ((pts.length : Int) - 1) a b).1 hw
      have hm := measured_any ⟨iv, pts, notes⟩ (.slice pa pts.length pc) (.slice na notes.length nc) W ((HS.out.below hB2).mono hB2.size)
      have HM := Lib.hid hm
      clear hw hm
      have np8 := HV.out.np8
      simp only at np8
      obtain ⟨an, rfl⟩ := Int.eq_ofNat_of_zero_le hin.1.1
      obtain ⟨bn, rfl⟩ := Int.eq_ofNat_of_zero_le hin.2.1
      have ha9 : an < 9 := by omega
      have hb9 : bn < 9 := by omega
      have HIN : Hid (apartS ⟨iv, pts, notes⟩ (an : Int) (bn : Int) = if measE ⟨iv, pts, notes⟩ ≠ 0 then ((0, 0), 0, measE ⟨iv, pts, notes⟩) else
          ((-((measM ⟨iv, pts, notes⟩)[bn * 9 + an]?.getD 0), (measM ⟨iv, pts, notes⟩)[an * 9 + bn]?.getD 0), orderV (-((measM ⟨iv, pts, notes⟩)[bn * 9 + an]?.getD 0)) ((measM ⟨iv, pts, notes⟩)[an * 9 + bn]?.getD 0), 0)) := by
        show _ = _
        unfold apartS
        rw [HE.out, if_neg (by rw [HR.out]; simp), if_neg (fun h => h hin)]
        rfl
      clear hin
      go_wp2_with fail
      refine HM.out.mono ?_
      rintro e w2 ⟨rfl, hb2⟩
      obtain ⟨M, HMM, hML⟩ : ∃ M, Hid (M = measM ⟨iv, pts, notes⟩) ∧ Hid (M.length = 81) := ⟨_, rfl, measM_length _⟩
      have HBD : Hid (Bd M) := by show Bd M; rw [HMM.out]; exact measM_bd _
      rw [← HMM.out]
      obtain ⟨t, HT⟩ : ∃ t, Hid (t = measE ⟨iv, pts, notes⟩) := ⟨_, rfl⟩
      rw [← HT.out]
      have hO2 := (hb2.block _ (lt_of_block hO')).trans hO'
      have hB3 := hB2.trans (hb2.mono hB2.size)
      have n1 : FarBlk (w2.alloc (Obj.cells (cs z81) 99)) w2.heap.size z81 := FarBlk.new w2 z81
      have g1 := n1.put M
      have hO3 := (Below.heap_alloc w2 (Obj.cells (cs z81) 99) _ (lt_of_block hO2)).trans hO2
      have hO4 := ((below_setRow (Below.refl w2.heap.size (w2.alloc (Obj.cells (cs z81) 99))) (Nat.le_refl _) (cs M)).block (w.heap.size + 1) (lt_of_block hO2)).trans hO3
      have gB := below_setRow (hB3.alloc hB3.size (Obj.cells (cs z81) 99)) hB3.size (cs M)
      clear hb2 hB2 hB3 hA' hO' hO2 hO3 a0 a1 a2 o0 o1 q0 q1 HM
      have q0 := frozen_of_row _ (w.heap.size + 1) 0 _ _ hO4
      have q1 := frozen_of_row _ (w.heap.size + 1) 1 _ _ hO4
      have o0 := cellOf hO4 0 _ rfl
      have o1 := cellOf hO4 1 _ rfl
      by_cases ht : t = 0
      · have tt : (t != 0) = false := by simp [ht]
        have HT0 := Lib.hid ht
        clear ht
        go_wp2_with (first
          | (refine far_store rfl (.tmp 12) (.tmp 36) rfl w2.heap.size rfl M z81 rfl n1 hML.out rfl rfl ?_)
          | (refine far_load rfl (.tmp 12) rfl w2.heap.size rfl M g1 hML.out ?_))
        refine (between_any M an bn _ hML.out ha9 hb9 HBD.out).mono ?_
        rintro e w3 ⟨rfl, hb3⟩
        have hO5 := (hb3.block _ (lt_of_block hO4)).trans hO4
        have hB5 := gB.trans (hb3.mono gB.size)
        clear hO4 gB q0 q1 o0 o1 n1 g1 hb3
        have q0 := frozen_of_row _ (w.heap.size + 1) 0 _ _ hO5
        have q1 := frozen_of_row _ (w.heap.size + 1) 1 _ _ hO5
        have o0 := cellOf hO5 0 _ rfl
        have o1 := cellOf hO5 1 _ rfl
        have hV := span_put hO5 (.int .i64 (-(M[bn * 9 + an]?.getD 0))) (.int .i64 (M[an * 9 + bn]?.getD 0))
        have hBV := (hB5.setCell (p := ⟨w.heap.size + 1, 0, none⟩) (by simp) (.int .i64 (-(M[bn * 9 + an]?.getD 0)))).setCell (p := ⟨w.heap.size + 1, 1, none⟩) (by simp) (.int .i64 (M[an * 9 + bn]?.getD 0))
        have HA : Hid (apartS ⟨iv, pts, notes⟩ (an : Int) (bn : Int) = ((-(M[bn * 9 + an]?.getD 0), M[an * 9 + bn]?.getD 0), orderV (-(M[bn * 9 + an]?.getD 0)) (M[an * 9 + bn]?.getD 0), 0)) := by
          show _ = _; rw [HIN.out, ← HT.out, if_neg (by rw [HT0.out]; simp), ← HMM.out]
        clear HIN
        generalize (-(M[bn * 9 + an]?.getD 0)) = lo at *
        generalize (M[an * 9 + bn]?.getD 0) = hi at *
        have HVV := Lib.hid hV
        have HBV := Lib.hid hBV
        clear hV hBV hB5
        go_wp2
        obtain hV := HVV.out
        obtain hBV := HBV.out
        generalize (w3.setCell ⟨w.heap.size + 1, 0, none⟩ (.int .i64 lo)).setCell ⟨w.heap.size + 1, 1, none⟩ (.int .i64 hi) = V at *
        clear HVV HBV hO5 q0 q1 o0 o1
        have v0 := cellOf hV 0 _ rfl
        have v1 := cellOf hV 1 _ rfl
        have f0 := frozen_of_row _ (w.heap.size + 1) 0 _ _ hV
        have f1 := frozen_of_row _ (w.heap.size + 1) 1 _ _ hV
        have hlt := lt_of_block hV
        have hS1 := (hBV.setCell (p := ⟨w.heap.size + 1, 0, none⟩) (by simp) (.int .i64 lo)).setCell (p := ⟨w.heap.size + 1, 1, none⟩) (by simp) (.int .i64 hi)
        have hS2 := (hS1.alloc hS1.size (Obj.cells #[.int .i64 lo, .int .i64 hi] 40)).drew
        have hT2 := (((hBV.alloc hBV.size (Obj.cells #[.int .i64 lo, .int .i64 hi] 40)).setCell (p := ⟨w.heap.size + 1, 0, none⟩) (by simp) (.int .i64 lo)).setCell (p := ⟨w.heap.size + 1, 1, none⟩) (by simp) (.int .i64 hi)).drew
        clear hS1
        go_region_with (first
          | (go_at_call 72; refine (orderOf_any lo hi _).mono ?_; rintro e w' ⟨rfl, rfl⟩))
        all_goals go_wp2
        all_goals refine bodyPost_ret (span_result3 rfl _ _ (w.heap.size + 1) (.int .i64 lo) (.int .i64 hi) rfl ?_) rfl ⟨by rw [HA.out]; rfl, ?_⟩
        all_goals first
          | exact (Below.heap_alloc _ _ _ (lt_of_block (span_put hV _ _))).trans (span_put hV _ _)
          | exact span_put ((Below.heap_alloc _ _ _ hlt).trans hV) _ _
          | exact hS2
          | exact hT2
      · have tt : (t != 0) = true := by simp [ht]
        have HA : Hid (apartS ⟨iv, pts, notes⟩ (an : Int) (bn : Int) = ((0, 0), 0, t)) := by show _ = _; rw [HIN.out, ← HT.out, if_pos ht]
        have HO := Lib.hid (span_put hO4 (.int .i64 0) (.int .i64 0))
        clear ht hO4
        go_wp2_with (first
          | (refine far_store rfl (.tmp 12) (.tmp 36) rfl w2.heap.size rfl M z81 rfl n1 hML.out rfl rfl ?_))
        exact bodyPost_ret (span_result3 rfl _ _ _ _ _ rfl HO.out) rfl ⟨by rw [HA.out]; rfl, (gB.setCell (by simp) _).setCell (by simp) _⟩
  · have tr : (r != 0) = true := by simp [hr]
    have HA : Hid (apartS ⟨iv, pts, notes⟩ a b = ((0, 0), 0, r)) := by show _ = _; unfold apartS; rw [HE.out, if_pos hr]
    have HO' := Lib.hid (span_put hO (.int .i64 0) (.int .i64 0))
    clear hr hA hO
    go_wp2
    exact bodyPost_ret (span_result3 rfl _ _ _ _ _ rfl HO'.out) rfl ⟨by rw [HA.out]; rfl, (hB1.setCell (by simp) _).setCell (by simp) _⟩
end Go.Proofs.YtacmaddjpaebfaaGreatDoor
