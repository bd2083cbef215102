/- row of the reference of package sheet: points, spots, contours. -/
import Derived.Test.YtacmaddjpaebfaaGreatDoorSga
set_option linter.unusedSimpArgs false
set_option linter.unusedVariables false
namespace Go.Proofs.YtacmaddjpaebfaaGreatDoor
open Go Go.RowKit Hs

set_option maxRecDepth 100000 in
set_option maxHeartbeats 2000000 in
theorem row_short (iv : Int) (P : List ByteArray) (N : List Note) (pv nv wv : Value) (x0 : ByteArray) (r : List ByteArray) (w : World) (hS : SheetAt w.heap.size w pv nv ⟨iv, P, N⟩) (hW : StrsAt w.heap.size w wv (x0 :: r)) (hr : r.length ≤ 1) (h : x0.data.toList ≠ [112, 111, 105, 110, 116] ∨ r.length = 0) :
    Calls Tryz.prog 92 #[.agg #[.int .i64 iv, pv, nv], wv] w (RowNo w) := by
  obtain ⟨ln, na, nc, rfl, _⟩ := id hS.notes
  obtain ⟨lp, pa, pc, rfl, _⟩ := id hS.pts
  obtain ⟨lw, wa, wk, rfl, hwc⟩ := id hW
  obtain ⟨bw, ow, rfl, hbw, hc⟩ := hwc (by simp)
  have c0 := hc 0 (by simp)
  have hn3 : (x0 :: r).length = r.length + 1 := by simp
  rw [hn3] at lw ⊢
  obtain ⟨n, hn⟩ : ∃ n, n = r.length + 1 := ⟨_, rfl⟩
  rw [← hn] at lw ⊢
  have n2 : n < 3 := by omega
  have n2I : (n : Int) < 3 := by omega
  have n1I : (0 : Int) < (n : Int) := by omega
  simp only [List.getElem_cons_zero, Nat.add_zero] at c0 lp ln ⊢
  by_cases hk : x0.data.toList = [112, 111, 105, 110, 116]
  · have t_point : (x0.toList == [112, 111, 105, 110, 116]) = true := strY hk
    have tn : ((n : Int) == 2) = false := by
      rcases h with h | h
      · exact absurd hk h
      · simp; omega
    clear hc hwc hS hW hn hn3 hk h hr
    go_enter Tryz.func92, Tryz.ntmps92
    go_wp2_with fail
    refine bodyPost_ret (row_result rfl _ _ (w.heap.size + 1) _ _ _ _ rfl (heap_alloc2_new w _ _) rfl) rfl ⟨_, _, _, _, _, _, _, rfl, by go_grown⟩
  · have t_point : (x0.toList == [112, 111, 105, 110, 116]) = false := strN hk
    clear hc hwc hS hW hn hn3 hk h hr
    go_enter Tryz.func92, Tryz.ntmps92
    go_wp2_with fail
    refine bodyPost_ret (row_result rfl _ _ (w.heap.size + 1) _ _ _ _ rfl (heap_alloc2_new w _ _) rfl) rfl ⟨_, _, _, _, _, _, _, rfl, by go_grown⟩

theorem one_strs {w : World} {g : Nat} {x : ByteArray} (h : w.heap[g]? = some (.cells #[.string x] 9 (0, 0))) : StrsAt w.heap.size w (.slice (some ⟨g, 0, none⟩) 1 1) [x] := by
  refine ⟨by simp, some ⟨g, 0, none⟩, 1, rfl, fun _ => ⟨g, 0, rfl, lt_of_block h, fun j hj => ?_⟩⟩
  obtain rfl : j = 0 := by simpa using hj
  exact cellOf h 0 _ rfl
theorem strs_made (w : World) (n base : Nat) (hn : n = w.heap.size) (hb : base ≤ w.heap.size) : (w.alloc (.cells #[] 9)).ownsRow base 9 1 (.slice (some ⟨n, 0, none⟩) 0 0) 0 [] := by
  subst hn
  exact World.ownsRow_made w #[] 0 hb (by decide) rfl
/-- What stands when the name is appended. -/
def RowMidP (B : Nat) (w : World) (iv : Int) (nv : Value) (P : List ByteArray) (wr : World) : Prop :=
  ∃ sa sc, wr.heap[w.heap.size]? = some (.cells #[.int .i64 iv, .slice sa P.length sc, nv] 25 (0, 0)) ∧ wr.ownsRow B 9 1 (.slice sa P.length sc) P.length (P.map Value.string) ∧
    wr.heap[w.heap.size + 1]? = some (.cells #[.int .i64 0, .slice none 0 0, .slice none 0 0] 25 (0, 0)) ∧ Below w.heap.size w wr

set_option maxRecDepth 100000 in
set_option maxHeartbeats 2000000 in
theorem row_point (iv : Int) (P : List ByteArray) (N : List Note) (pv nv wv : Value) (x0 x1 : ByteArray) (w : World) (hS : SheetAt w.heap.size w pv nv ⟨iv, P, N⟩) (hW : StrsAt w.heap.size w wv [x0, x1]) (hp : P.length ≤ 10000) (hx : x1.size ≤ 100000) (hk : x0.data.toList = [112, 111, 105, 110, 116]) :
    Calls Tryz.prog 92 #[.agg #[.int .i64 iv, pv, nv], wv] w (RowOk iv (P ++ [x1]) N w) := by
  obtain ⟨ln, na, nc, rfl, _⟩ := id hS.notes
  obtain ⟨lp, pa, pc, rfl, _⟩ := id hS.pts
  have t_point : (x0.toList == [112, 111, 105, 110, 116]) = true := strY hk
  obtain ⟨lw, wa, wk, rfl, hwc⟩ := id hW
  obtain ⟨bw, ow, rfl, hbw, hc⟩ := hwc (by simp)
  have c0 := hc 0 (by simp)
  have c1 := hc 1 (by simp)
  have hn3 : ([x0, x1] : List ByteArray).length = 2 := rfl
  rw [hn3] at lw ⊢
  simp only [List.getElem_cons_zero, List.getElem_cons_succ, Nat.add_zero] at c0 c1 lp ln ⊢
  have HS := Lib.hid hS
  clear hc hwc hS hW hn3 hk
  go_enter Tryz.func92, Tryz.ntmps92
  go_upto_region 2 with fail
  have hB : Below w.heap.size w ((w.alloc (Obj.cells #[.int .i64 iv, .slice pa P.length pc, .slice na N.length nc] 25)).alloc (Obj.cells #[.int .i64 0, .slice none 0 0, .slice none 0 0] 25)) := by go_grown
  have hA : ((w.alloc (Obj.cells #[.int .i64 iv, .slice pa P.length pc, .slice na N.length nc] 25)).alloc (Obj.cells #[.int .i64 0, .slice none 0 0, .slice none 0 0] 25)).heap[w.heap.size]? = some (.cells #[.int .i64 iv, .slice pa P.length pc, .slice na N.length nc] 25 (0, 0)) := heap_alloc2_old w _ _
  have hR : ((w.alloc (Obj.cells #[.int .i64 iv, .slice pa P.length pc, .slice na N.length nc] 25)).alloc (Obj.cells #[.int .i64 0, .slice none 0 0, .slice none 0 0] 25)).heap[w.heap.size + 1]? = some (.cells #[.int .i64 0, .slice none 0 0, .slice none 0 0] 25 (0, 0)) := heap_alloc2_new w _ _
  have HZ : Hid (((w.alloc (Obj.cells #[.int .i64 iv, .slice pa P.length pc, .slice na N.length nc] 25)).alloc (Obj.cells #[.int .i64 0, .slice none 0 0, .slice none 0 0] 25)).heap.size = w.heap.size + 1 + 1) := by show _ = _; simp
  generalize (w.alloc (Obj.cells #[.int .i64 iv, .slice pa P.length pc, .slice na N.length nc] 25)).alloc (Obj.cells #[.int .i64 0, .slice none 0 0, .slice none 0 0] 25) = w3 at *
  have hW2 : w.heap.size + 1 + 1 ≤ w3.heap.size := Nat.le_of_eq HZ.out.symm
  have HA3 := Lib.hid hA
  have HR3 := Lib.hid hR
  have HB3 := Lib.hid hB
  have HP3 := Lib.hid (strsB (Lib.hid HS.out.pts) hB)
  have d1 := (hB.cell (p := ⟨bw, ow + 1, none⟩) hbw).trans c1
  have hAlt3 : w.heap.size < w3.heap.size := lt_of_block hA
  have hRlt3 := lt_of_block hR
  have hwlt : bw < w3.heap.size := by omega
  clear hA hR hB c0 c1 HZ
  go_cut [5] from 18 (fun v wr => v = .bool false ∧ RowMidP w3.heap.size w iv (.slice na N.length nc) (P ++ [x1]) wr)
  case first =>
    have c2 := cellOf HA3.out 1 _ rfl
    have f2 := frozen_of_row _ _ 1 _ _ HA3.out
    go_region_law (first
      | (refine step_strs (o := ⟨some 21, _, _, _, _, _⟩) (by rfl) _ _ (by rfl) w3.heap.size (.slice (some ⟨_, 0, none⟩) 0 0) _ [] P (by rfl) (by rfl) (by first | exact strs_made _ _ _ (by simp) (by simp) | exact (strs_made _ _ _ (by simp) (by simp)).alloc _) (strsB HP3 (by go_grown)) (by first | (simp; done) | (simp; omega)) (by simp; omega) ?_; intro v1 w1 ho1 hg1 hl1; have HB1 : Hid (Below w3.heap.size w3 w1) := Below.grown (by go_grown) hg1 (by first | (simp; done) | (simp; omega)) hl1; have y1 := (HB1.out.cell (p := ⟨bw, ow + 1, none⟩) hwlt).trans d1)
      | (refine step_strs (o := ⟨some 26, _, _, _, _, _⟩) (by rfl) _ _ (by rfl) w3.heap.size _ _ P [x1] (by rfl) (by rfl) (by first | exact ho1 | exact ho1.alloc _) (by first | exact one_strs (heap_alloc_new _ _) | exact one_strs ((hg1.block _ (by first | (simp; done) | (simp; omega)) (by simp [Value.ownBlock])).trans (heap_alloc2_new _ _ _)) | exact one_strs ((hg1.block _ (by first | (simp; done) | (simp; omega)) (by simp [Value.ownBlock])).trans (heap_alloc2_old _ _ _))) (by have := HB1.out.size; first | (simp; done) | (simp; omega) | omega) (by simp; omega) ?_; intro v2 w4 ho2 hg2 hl2; obtain ⟨sa, sc, rfl⟩ := own_slice ho2; have HB4 : Hid (Below w3.heap.size w3 w4) := (by first | exact (HB1.out).grown hg2 HB1.out.size hl2 | exact (HB1.out.alloc HB1.out.size _).grown hg2 (by have := HB1.out.size; simp; omega) hl2); have HA4 := Lib.hid ((HB4.out.block _ hAlt3).trans HA3.out); have c22 := cellOf HA4.out 1 _ rfl; have f22 := frozen_of_row _ _ 1 _ _ HA4.out))
    all_goals
      have hl : (P ++ [x1]).length = P.length + 1 := by simp
      have HM : RowMidP w3.heap.size w iv (.slice na N.length nc) (P ++ [x1]) (w4.setCell ⟨w.heap.size, 1, none⟩ (.slice sa (P ++ [x1]).length sc)) := by
        refine ⟨sa, sc, heap_setCell_same w4 w.heap.size 1 _ _ _ HA4.out, own_other ho2 ⟨w.heap.size, 1, none⟩ hAlt3 _, (heap_setCell_other w4 ⟨w.heap.size, 1, none⟩ (w.heap.size + 1) _ (by simp)).trans ((HB4.out.block _ hRlt3).trans HR3.out), ?_⟩
        exact (HB3.out.trans (HB4.out.mono HB3.out.size)).setCell (p := ⟨w.heap.size, 1, none⟩) (Nat.le_refl _) _
      have HM' := Lib.hid (show RowMidP w3.heap.size w iv (.slice na N.length nc) (P ++ [x1]) (w4.setCell ⟨w.heap.size, 1, none⟩ (.slice sa (P.length + 1) sc)) from hl ▸ HM)
      clear HM ho1 hg1 hl1 ho2 hg2 hl2 c2 f2 c22 f22 HA4 y1
      go_wp2_with fail
      go_meet
      case rel => exact ⟨rfl, HM'.out⟩
  case rest =>
    obtain ⟨rfl, sa, sc, hA4, hO4, hR4, hB4⟩ := hcut
    have HA4 := Lib.hid hA4
    have HR4 := Lib.hid hR4
    have HO4 := Lib.hid hO4
    have HB4 := Lib.hid hB4
    have a0 := cellOf hA4 0 _ rfl
    have a1 := cellOf hA4 1 _ rfl
    have a2 := cellOf hA4 2 _ rfl
    have r0 := cellOf hR4 0 _ rfl
    have r1 := cellOf hR4 1 _ rfl
    have r2 := cellOf hR4 2 _ rfl
    have g0 := frozen_of_row _ _ 0 _ _ hR4
    have g1 := frozen_of_row _ _ 1 _ _ hR4
    have g2 := frozen_of_row _ _ 2 _ _ hR4
    have HL := Lib.hid (show (P ++ [x1]).length = P.length + 1 by simp)
    generalize (P ++ [x1]).length = nn at *
    clear hA4 hR4 hO4 hB4 HA3 HR3 HB3 HP3 d1
    go_wp2_with fail
    have hO := own_other (own_other (own_other HO4.out ⟨w.heap.size + 1, 0, none⟩ hRlt3 (.int .i64 iv)) ⟨w.heap.size + 1, 1, none⟩ hRlt3 (.slice sa nn sc)) ⟨w.heap.size + 1, 2, none⟩ hRlt3 (.slice na N.length nc)
    have hBB := three_below (g := w.heap.size + 1) (x := .int .i64 iv) (y := .slice sa nn sc) (z := .slice na N.length nc) HB4.out (by simp)
    refine bodyPost_ret (row_result rfl _ _ (w.heap.size + 1) _ _ _ _ rfl (three_set (z0 := .int .i64 0) (z1 := .slice none 0 0) (z2 := .slice none 0 0) HR4.out) rfl) rfl ⟨_, _, rfl, ⟨?_, (HS.out.notes.below hBB).mono hBB.size, ?_⟩, cap_own hO, hBB⟩
    · refine strsAt_own (base := w3.heap.size) (l := P ++ [x1]) ?_ (by simp; omega)
      have e : (P ++ [x1]).length = nn := by rw [HL.out]; simp
      rw [e]
      exact hO
    · intro x hxm
      rcases List.mem_append.1 hxm with h | h
      · exact HS.out.sz x h
      · simp at h; subst h; omega

set_option maxRecDepth 100000 in
set_option maxHeartbeats 2000000 in
theorem row_ok_spot (iv : Int) (P : List ByteArray) (N : List Note) (pv nv wv : Value) (x0 x1 x2 x3 : ByteArray) (w : World) (hS : SheetAt w.heap.size w pv nv ⟨iv, P, N⟩) (hW : StrsAt w.heap.size w wv ([x0, x1, x2, x3] : List ByteArray)) (hwcap : CapOk wv) (hcap : CapOk pv) (hn : N.length ≤ 10000) (hx2 : x2.size ≤ 100000) (hx3 : x3.size ≤ 100000) (hk : x0.data.toList = [115, 112, 111, 116]) :
    Calls Tryz.prog 92 #[.agg #[.int .i64 iv, pv, nv], wv] w (RowOk iv P (N ++ [⟨1, plF x1.data.toList P 0, 0, sigF x2.data.toList, sigF x3.data.toList⟩]) w) := by
  obtain ⟨ln, na, nc, rfl, _⟩ := id hS.notes
  obtain ⟨lp, pa, pc, rfl, _⟩ := id hS.pts
  have t_point : (x0.toList == [112, 111, 105, 110, 116]) = false := strN (by rw [hk]; decide)
  have t_spot : (x0.toList == [115, 112, 111, 116]) = true := strY hk
  have t_contour : (x0.toList == [99, 111, 110, 116, 111, 117, 114]) = false := strN (by rw [hk]; decide)
  have t_lake : (x0.toList == [108, 97, 107, 101]) = false := strN (by rw [hk]; decide)
  have t_slope : (x0.toList == [115, 108, 111, 112, 101]) = false := strN (by rw [hk]; decide)
  obtain ⟨lw, wa, wk, rfl, hwc⟩ := id hW
  obtain ⟨bw, ow, rfl, hbw, hc⟩ := hwc (by simp)
  have hnk : ([x0, x1, x2, x3] : List ByteArray).length ≤ wk := by obtain ⟨_, _, _, e, q⟩ := hwcap; cases e; exact q
  have c0 := hc 0 (by simp)
  have c1 := hc 1 (by simp)
  have c2 := hc 2 (by simp)
  have c3 := hc 3 (by simp)
  have hn3 : ([x0, x1, x2, x3] : List ByteArray).length = 4 := rfl
  rw [hn3] at lw hnk ⊢
  have k3 : (4 : Int) ≤ (wk : Int) := by omega
  simp only [List.getElem_cons_zero, List.getElem_cons_succ, Nat.add_zero] at c0 c1 c2 c3 lp ln ⊢
  have HS := Lib.hid hS
  clear hc hwc hS hW hn3
  go_enter Tryz.func92, Tryz.ntmps92
  go_upto_region 6 with fail
  have hB : Below w.heap.size w ((w.alloc (Obj.cells #[.int .i64 iv, .slice pa P.length pc, .slice na N.length nc] 25)).alloc (Obj.cells #[.int .i64 0, .slice none 0 0, .slice none 0 0] 25)) := by go_grown
  have hA : ((w.alloc (Obj.cells #[.int .i64 iv, .slice pa P.length pc, .slice na N.length nc] 25)).alloc (Obj.cells #[.int .i64 0, .slice none 0 0, .slice none 0 0] 25)).heap[w.heap.size]? = some (.cells #[.int .i64 iv, .slice pa P.length pc, .slice na N.length nc] 25 (0, 0)) := heap_alloc2_old w _ _
  have hR : ((w.alloc (Obj.cells #[.int .i64 iv, .slice pa P.length pc, .slice na N.length nc] 25)).alloc (Obj.cells #[.int .i64 0, .slice none 0 0, .slice none 0 0] 25)).heap[w.heap.size + 1]? = some (.cells #[.int .i64 0, .slice none 0 0, .slice none 0 0] 25 (0, 0)) := heap_alloc2_new w _ _
  have HZ : Hid (((w.alloc (Obj.cells #[.int .i64 iv, .slice pa P.length pc, .slice na N.length nc] 25)).alloc (Obj.cells #[.int .i64 0, .slice none 0 0, .slice none 0 0] 25)).heap.size = w.heap.size + 1 + 1) := by show _ = _; simp
  generalize (w.alloc (Obj.cells #[.int .i64 iv, .slice pa P.length pc, .slice na N.length nc] 25)).alloc (Obj.cells #[.int .i64 0, .slice none 0 0, .slice none 0 0] 25) = W at *
  have hW2 : w.heap.size + 1 + 1 ≤ W.heap.size := Nat.le_of_eq HZ.out.symm
  have HA := Lib.hid hA
  have HR := Lib.hid hR
  have HB := Lib.hid hB
  have HP := Lib.hid (strsB (Lib.hid HS.out.pts) hB)
  have d1 := (hB.cell (p := ⟨bw, ow + 1, none⟩) hbw).trans c1
  have d0 := (hB.cell (p := ⟨bw, ow, none⟩) hbw).trans c0
  have a1 := cellOf hA 1 _ rfl
  have hAlt : w.heap.size < W.heap.size := lt_of_block hA
  have hwlt : bw < W.heap.size := by omega
  clear hA hR hB
  go_cut [6] from 33 (fun v wr => v = .pointer (some ⟨W.heap.size, 0, none⟩) ∧ Hid (wr.heap[W.heap.size]? = some (.cells #[.int .i64 0, .int .i64 (plF x1.data.toList P 0), .int .i64 0, .int .i64 0, .int .i64 0] 67 (0, 0))) ∧ Hid (Below W.heap.size W wr))
  case first =>
    go_region_with ((go_at_call 96; refine (place_at _ P x1 _ (strsB HP (by go_grown))).mono ?_; rintro e w' ⟨rfl, rfl⟩))
    all_goals
      go_wp2_with fail
      go_meet
      case rel => exact ⟨rfl, heap_alloc_new W _, Lib.hid (by go_grown)⟩
  case rest =>
    obtain ⟨rfl, HX0, HBc⟩ := hcut
    have HAc := Lib.hid ((HBc.out.block _ hAlt).trans HA.out)
    have HRc := Lib.hid ((HBc.out.block _ (by have := HZ.out; omega)).trans HR.out)
    have HBw := Lib.hid (HB.out.trans (HBc.out.mono HB.out.size))
    have HPc := Lib.hid (strsB HP HBc.out)
    have d0 := (HBc.out.cell (p := ⟨bw, ow, none⟩) hwlt).trans d0
    have d2 := (HBw.out.cell (p := ⟨bw, ow + 2, none⟩) hbw).trans c2
    have d3 := (HBw.out.cell (p := ⟨bw, ow + 3, none⟩) hbw).trans c3
    have f0 := frozen_of_row _ _ 0 _ _ HX0.out
    have y0 := cellOf HX0.out 0 _ rfl
    have f2 := frozen_of_row _ _ 2 _ _ HX0.out
    have y2 := cellOf HX0.out 2 _ rfl
    have a0 := cellOf HAc.out 0 _ rfl
    have a1 := cellOf HAc.out 1 _ rfl
    have a2 := cellOf HAc.out 2 _ rfl
    have r0 := cellOf HRc.out 0 _ rfl
    have r1 := cellOf HRc.out 1 _ rfl
    have r2 := cellOf HRc.out 2 _ rfl
    have g0 := frozen_of_row _ _ 0 _ _ HRc.out
    have g1 := frozen_of_row _ _ 1 _ _ HRc.out
    have g2 := frozen_of_row _ _ 2 _ _ HRc.out
    have hXlt : W.heap.size < wc.heap.size := lt_of_block HX0.out
    have hbx1 : W.heap.size ≠ w.heap.size := by omega
    have hbx2 : W.heap.size ≠ w.heap.size + 1 := by omega
    clear c0 c1 c2 c3 HA HR HP HB HZ
    generalize W.heap.size = bx at *
    clear a0 a1 a2 r0 r1 r2 g0 g1 g2 f2 y2 HPc
    go_upto_region 24 with fail
    have HX1 : Hid ((wc.setCell ⟨bx, 0, none⟩ (.int .i64 1)).heap[bx]? = some (.cells #[.int .i64 1, .int .i64 (plF x1.data.toList P 0), .int .i64 0, .int .i64 0, .int .i64 0] 67 (0, 0))) := heap_setCell_same wc bx 0 _ _ (.int .i64 1) HX0.out
    have HA1 := Lib.hid ((heap_setCell_other wc ⟨bx, 0, none⟩ w.heap.size (.int .i64 1) (by simp; omega)).trans HAc.out)
    have HR1 := Lib.hid ((heap_setCell_other wc ⟨bx, 0, none⟩ (w.heap.size + 1) (.int .i64 1) (by simp; omega)).trans HRc.out)
    have HB1 := Lib.hid (HBw.out.setCell (p := ⟨bx, 0, none⟩) (by simp; omega) (.int .i64 1))
    have q2 := setO wc ⟨bx, 0, none⟩ (.int .i64 1) (b := bw) (o := ow + 2) (by simp; omega) d2
    have q3 := setO wc ⟨bx, 0, none⟩ (.int .i64 1) (b := bw) (o := ow + 3) (by simp; omega) d3
    clear HAc HRc HBw HX0 d0 d2 d3 f0 y0 hbw t_point t_spot t_contour t_lake t_slope
    generalize wc.setCell ⟨bx, 0, none⟩ (.int .i64 1) = w1 at *
    go_still_tail 9, (by kernel_rfl)
    still_call ((signed_any x2 _ (by omega)).mono (fun _ _ h => ⟨h.1, h.2.symm⟩))
    repeat still_step
    still_call ((signed_any x3 _ (by omega)).mono (fun _ _ h => ⟨h.1, h.2.symm⟩))
    repeat still_step
    refine wpStill_nil ?_
    have HX2 : Hid (w1.drew.heap[bx]? = _) := HX1.out
    have HA2 : Hid (w1.drew.heap[w.heap.size]? = _) := HA1.out
    have HR2 : Hid (w1.drew.heap[w.heap.size + 1]? = _) := HR1.out
    have HB2 : Hid (Below w.heap.size w w1.drew) := HB1.out.drew
    clear HX1 HA1 HR1 HB1 q2 q3
    change wpList _ _ _ _ _ w1.drew
    generalize w1.drew = w2 at *
    have f3 := frozen_of_row _ _ 3 _ _ HX2.out
    have f4 := frozen_of_row _ _ 4 _ _ HX2.out
    have y3 := cellOf HX2.out 3 _ rfl
    have y4 := cellOf HX2.out 4 _ rfl
    go_upto_region 25 with fail
    have HX3 : Hid (((w2.setCell ⟨bx, 3, none⟩ (.int .i64 (sigF x2.data.toList))).setCell ⟨bx, 4, none⟩ (.int .i64 (sigF x3.data.toList))).heap[bx]? = some (.cells #[.int .i64 1, .int .i64 (plF x1.data.toList P 0), .int .i64 0, .int .i64 (sigF x2.data.toList), .int .i64 (sigF x3.data.toList)] 67 (0, 0))) := heap_setCell_same _ bx 4 _ _ (.int .i64 (sigF x3.data.toList)) (heap_setCell_same w2 bx 3 _ _ (.int .i64 (sigF x2.data.toList)) HX2.out)
    have HA3 := Lib.hid ((heap_setCell_other _ ⟨bx, 4, none⟩ w.heap.size (.int .i64 (sigF x3.data.toList)) (by simp; omega)).trans ((heap_setCell_other w2 ⟨bx, 3, none⟩ w.heap.size (.int .i64 (sigF x2.data.toList)) (by simp; omega)).trans HA2.out))
    have HR3 := Lib.hid ((heap_setCell_other _ ⟨bx, 4, none⟩ (w.heap.size + 1) (.int .i64 (sigF x3.data.toList)) (by simp; omega)).trans ((heap_setCell_other w2 ⟨bx, 3, none⟩ (w.heap.size + 1) (.int .i64 (sigF x2.data.toList)) (by simp; omega)).trans HR2.out))
    have HB3 := Lib.hid ((HB2.out.setCell (p := ⟨bx, 3, none⟩) (by simp; omega) (.int .i64 (sigF x2.data.toList))).setCell (p := ⟨bx, 4, none⟩) (by simp; omega) (.int .i64 (sigF x3.data.toList)))
    clear HX2 HA2 HR2 HB2 f3 f4 y3 y4
    generalize (w2.setCell ⟨bx, 3, none⟩ (.int .i64 (sigF x2.data.toList))).setCell ⟨bx, 4, none⟩ (.int .i64 (sigF x3.data.toList)) = w3 at *
    generalize sigF x2.data.toList = LO at *
    generalize sigF x3.data.toList = HI at *
    generalize plF x1.data.toList P 0 = PA at *
    have HN3 := Lib.hid ((HS.out.notes.below HB3.out).mono HB3.out.size)
    have hXlt := lt_of_block HX3.out
    have hAlt3 := lt_of_block HA3.out
    have hRlt3 := lt_of_block HR3.out
    go_cut [5] from 94 (fun v wr => v = .bool false ∧ RowMid w3.heap.size w iv (.slice pa P.length pc) (N ++ [⟨1, PA, 0, LO, HI⟩]) wr)
    case first =>
      have c2 := cellOf HA3.out 2 _ rfl
      have f2 := frozen_of_row _ _ 2 _ _ HA3.out
      have x0 := cellOf HX3.out 0 _ rfl
      have x1 := cellOf HX3.out 1 _ rfl
      have x2 := cellOf HX3.out 2 _ rfl
      have x3 := cellOf HX3.out 3 _ rfl
      have x4 := cellOf HX3.out 4 _ rfl
      go_region_law (first
        | (refine step_notes (o := ⟨some 97, _, _, _, _, _⟩) (by rfl) _ _ (by rfl) w3.heap.size (.slice (some ⟨_, 0, none⟩) 0 0) _ [] N (by rfl) (by rfl) (by first | exact made_at _ _ _ (by simp) (by simp) | exact (made_at _ _ _ (by simp) (by simp)).alloc _) (ntsB HN3 (by go_grown)) (by first | (simp; done) | (simp; omega)) (by simp; omega) ?_; intro v1 w1 ho1 hg1 hl1; have HB1 : Hid (Below w3.heap.size w3 w1) := Below.grown (by go_grown) hg1 (by first | (simp; done) | (simp; omega)) hl1; have HX1 := Lib.hid ((HB1.out.block _ hXlt).trans HX3.out); have y0 := cellOf HX1.out 0 _ rfl; have y1 := cellOf HX1.out 1 _ rfl; have y2 := cellOf HX1.out 2 _ rfl; have y3 := cellOf HX1.out 3 _ rfl; have y4 := cellOf HX1.out 4 _ rfl)
        | (refine step_notes (o := ⟨some 100, _, _, _, _, _⟩) (by rfl) _ _ (by rfl) w3.heap.size _ _ N [⟨1, PA, 0, LO, HI⟩] (by rfl) (by rfl) (by first | exact ho1 | exact ho1.alloc _) (by first | exact one_notes (heap_alloc_new _ _) | exact one_notes ((hg1.block _ (by first | (simp; done) | (simp; omega)) (by simp [Value.ownBlock])).trans (heap_alloc2_new _ _ _)) | exact one_notes ((hg1.block _ (by first | (simp; done) | (simp; omega)) (by simp [Value.ownBlock])).trans (heap_alloc2_old _ _ _))) (by have := HB1.out.size; first | (simp; done) | (simp; omega) | omega) (by simp; omega) ?_; intro v2 w4 ho2 hg2 hl2; obtain ⟨sa, sc, rfl⟩ := own_slice ho2; have HB4 : Hid (Below w3.heap.size w3 w4) := (by first | exact (HB1.out).grown hg2 HB1.out.size hl2 | exact (HB1.out.alloc HB1.out.size _).grown hg2 (by have := HB1.out.size; simp; omega) hl2); have HA4 := Lib.hid ((HB4.out.block _ hAlt3).trans HA3.out); have c22 := cellOf HA4.out 2 _ rfl; have f22 := frozen_of_row _ _ 2 _ _ HA4.out))
      all_goals
        have hl : (N ++ [(⟨1, PA, 0, LO, HI⟩ : Note)]).length = N.length + 1 := by simp
        have HM : RowMid w3.heap.size w iv (.slice pa P.length pc) (N ++ [⟨1, PA, 0, LO, HI⟩]) (w4.setCell ⟨w.heap.size, 2, none⟩ (.slice sa (N ++ [(⟨1, PA, 0, LO, HI⟩ : Note)]).length sc)) := by
          refine ⟨sa, sc, heap_setCell_same w4 w.heap.size 2 _ _ _ HA4.out, own_other ho2 ⟨w.heap.size, 2, none⟩ hAlt3 _, (heap_setCell_other w4 ⟨w.heap.size, 2, none⟩ (w.heap.size + 1) _ (by simp)).trans ((HB4.out.block _ hRlt3).trans HR3.out), ?_⟩
          exact (HB3.out.trans (HB4.out.mono HB3.out.size)).setCell (p := ⟨w.heap.size, 2, none⟩) (Nat.le_refl _) _
        have HM' := Lib.hid (show RowMid w3.heap.size w iv (.slice pa P.length pc) (N ++ [⟨1, PA, 0, LO, HI⟩]) (w4.setCell ⟨w.heap.size, 2, none⟩ (.slice sa (N.length + 1) sc)) from hl ▸ HM)
        clear HM ho1 hg1 hl1 ho2 hg2 hl2 y0 y1 y2 y3 y4 x0 x1 x2 x3 x4 c2 f2 c22 f22 HA4 HX1
        go_wp2_with fail
        go_meet
        case rel => exact ⟨rfl, HM'.out⟩
    case rest =>
      obtain ⟨rfl, sa, sc, hA4, hO4, hR4, hB4⟩ := hcut
      have HA4 := Lib.hid hA4
      have HR4 := Lib.hid hR4
      have HO4 := Lib.hid hO4
      have HB4 := Lib.hid hB4
      have a0 := cellOf hA4 0 _ rfl
      have a1 := cellOf hA4 1 _ rfl
      have a2 := cellOf hA4 2 _ rfl
      have r0 := cellOf hR4 0 _ rfl
      have r1 := cellOf hR4 1 _ rfl
      have r2 := cellOf hR4 2 _ rfl
      have g0 := frozen_of_row _ _ 0 _ _ hR4
      have g1 := frozen_of_row _ _ 1 _ _ hR4
      have g2 := frozen_of_row _ _ 2 _ _ hR4
      have hl : (N ++ [(⟨1, PA, 0, LO, HI⟩ : Note)]).length = N.length + 1 := by simp
      have HL := Lib.hid hl
      generalize (N ++ [(⟨1, PA, 0, LO, HI⟩ : Note)]).length = nn at *
      clear hA4 hR4 hO4 hB4 HX3 HA3 HR3 HB3 HN3 hl
      go_wp2_with fail
      have hC := heap_setCell_same _ (w.heap.size + 1) 2 _ _ (.slice sa nn sc) (heap_setCell_same _ (w.heap.size + 1) 1 _ _ (.slice pa P.length pc) (heap_setCell_same _ (w.heap.size + 1) 0 _ _ (.int .i64 iv) HR4.out))
      have hO := own_other (own_other (own_other HO4.out ⟨w.heap.size + 1, 0, none⟩ hRlt3 (.int .i64 iv)) ⟨w.heap.size + 1, 1, none⟩ hRlt3 (.slice pa P.length pc)) ⟨w.heap.size + 1, 2, none⟩ hRlt3 (.slice sa nn sc)
      have hBB := ((HB4.out.setCell (p := ⟨w.heap.size + 1, 0, none⟩) (by simp) (.int .i64 iv)).setCell (p := ⟨w.heap.size + 1, 1, none⟩) (by simp) (.slice pa P.length pc)).setCell (p := ⟨w.heap.size + 1, 2, none⟩) (by simp) (.slice sa nn sc)
      refine bodyPost_ret (row_result rfl _ _ (w.heap.size + 1) _ _ _ _ rfl hC rfl) rfl ⟨_, _, rfl, ⟨(HS.out.pts.below hBB).mono hBB.size, ?_, HS.out.sz⟩, hcap, hBB⟩
      refine notesAt_own (base := w3.heap.size) (l := N ++ [⟨1, PA, 0, LO, HI⟩]) ?_ (by simp; omega)
      have e : (N ++ [(⟨1, PA, 0, LO, HI⟩ : Note)]).length = nn := by rw [HL.out]; simp
      rw [e]
      exact hO

set_option maxRecDepth 100000 in
set_option maxHeartbeats 2000000 in
theorem row_ok_contour (iv : Int) (P : List ByteArray) (N : List Note) (pv nv wv : Value) (x0 x1 x2 x3 : ByteArray) (w : World) (hS : SheetAt w.heap.size w pv nv ⟨iv, P, N⟩) (hW : StrsAt w.heap.size w wv ([x0, x1, x2, x3] : List ByteArray)) (hwcap : CapOk wv) (hcap : CapOk pv) (hn : N.length ≤ 10000) (hx2 : x2.size ≤ 100000) (hx3 : x3.size ≤ 100000) (hk : x0.data.toList = [99, 111, 110, 116, 111, 117, 114]) :
    Calls Tryz.prog 92 #[.agg #[.int .i64 iv, pv, nv], wv] w (RowOk iv P (N ++ [⟨2, plF x1.data.toList P 0, 0, sigF x2.data.toList, sigF x3.data.toList⟩]) w) := by
  obtain ⟨ln, na, nc, rfl, _⟩ := id hS.notes
  obtain ⟨lp, pa, pc, rfl, _⟩ := id hS.pts
  have t_point : (x0.toList == [112, 111, 105, 110, 116]) = false := strN (by rw [hk]; decide)
  have t_spot : (x0.toList == [115, 112, 111, 116]) = false := strN (by rw [hk]; decide)
  have t_contour : (x0.toList == [99, 111, 110, 116, 111, 117, 114]) = true := strY hk
  have t_lake : (x0.toList == [108, 97, 107, 101]) = false := strN (by rw [hk]; decide)
  have t_slope : (x0.toList == [115, 108, 111, 112, 101]) = false := strN (by rw [hk]; decide)
  obtain ⟨lw, wa, wk, rfl, hwc⟩ := id hW
  obtain ⟨bw, ow, rfl, hbw, hc⟩ := hwc (by simp)
  have hnk : ([x0, x1, x2, x3] : List ByteArray).length ≤ wk := by obtain ⟨_, _, _, e, q⟩ := hwcap; cases e; exact q
  have c0 := hc 0 (by simp)
  have c1 := hc 1 (by simp)
  have c2 := hc 2 (by simp)
  have c3 := hc 3 (by simp)
  have hn3 : ([x0, x1, x2, x3] : List ByteArray).length = 4 := rfl
  rw [hn3] at lw hnk ⊢
  have k3 : (4 : Int) ≤ (wk : Int) := by omega
  simp only [List.getElem_cons_zero, List.getElem_cons_succ, Nat.add_zero] at c0 c1 c2 c3 lp ln ⊢
  have HS := Lib.hid hS
  clear hc hwc hS hW hn3
  go_enter Tryz.func92, Tryz.ntmps92
  go_upto_region 6 with fail
  have hB : Below w.heap.size w ((w.alloc (Obj.cells #[.int .i64 iv, .slice pa P.length pc, .slice na N.length nc] 25)).alloc (Obj.cells #[.int .i64 0, .slice none 0 0, .slice none 0 0] 25)) := by go_grown
  have hA : ((w.alloc (Obj.cells #[.int .i64 iv, .slice pa P.length pc, .slice na N.length nc] 25)).alloc (Obj.cells #[.int .i64 0, .slice none 0 0, .slice none 0 0] 25)).heap[w.heap.size]? = some (.cells #[.int .i64 iv, .slice pa P.length pc, .slice na N.length nc] 25 (0, 0)) := heap_alloc2_old w _ _
  have hR : ((w.alloc (Obj.cells #[.int .i64 iv, .slice pa P.length pc, .slice na N.length nc] 25)).alloc (Obj.cells #[.int .i64 0, .slice none 0 0, .slice none 0 0] 25)).heap[w.heap.size + 1]? = some (.cells #[.int .i64 0, .slice none 0 0, .slice none 0 0] 25 (0, 0)) := heap_alloc2_new w _ _
  have HZ : Hid (((w.alloc (Obj.cells #[.int .i64 iv, .slice pa P.length pc, .slice na N.length nc] 25)).alloc (Obj.cells #[.int .i64 0, .slice none 0 0, .slice none 0 0] 25)).heap.size = w.heap.size + 1 + 1) := by show _ = _; simp
  generalize (w.alloc (Obj.cells #[.int .i64 iv, .slice pa P.length pc, .slice na N.length nc] 25)).alloc (Obj.cells #[.int .i64 0, .slice none 0 0, .slice none 0 0] 25) = W at *
  have hW2 : w.heap.size + 1 + 1 ≤ W.heap.size := Nat.le_of_eq HZ.out.symm
  have HA := Lib.hid hA
  have HR := Lib.hid hR
  have HB := Lib.hid hB
  have HP := Lib.hid (strsB (Lib.hid HS.out.pts) hB)
  have d1 := (hB.cell (p := ⟨bw, ow + 1, none⟩) hbw).trans c1
  have d0 := (hB.cell (p := ⟨bw, ow, none⟩) hbw).trans c0
  have a1 := cellOf hA 1 _ rfl
  have hAlt : w.heap.size < W.heap.size := lt_of_block hA
  have hwlt : bw < W.heap.size := by omega
  clear hA hR hB
  go_cut [6] from 33 (fun v wr => v = .pointer (some ⟨W.heap.size, 0, none⟩) ∧ Hid (wr.heap[W.heap.size]? = some (.cells #[.int .i64 0, .int .i64 (plF x1.data.toList P 0), .int .i64 0, .int .i64 0, .int .i64 0] 67 (0, 0))) ∧ Hid (Below W.heap.size W wr))
  case first =>
    go_region_with ((go_at_call 96; refine (place_at _ P x1 _ (strsB HP (by go_grown))).mono ?_; rintro e w' ⟨rfl, rfl⟩))
    all_goals
      go_wp2_with fail
      go_meet
      case rel => exact ⟨rfl, heap_alloc_new W _, Lib.hid (by go_grown)⟩
  case rest =>
    obtain ⟨rfl, HX0, HBc⟩ := hcut
    have HAc := Lib.hid ((HBc.out.block _ hAlt).trans HA.out)
    have HRc := Lib.hid ((HBc.out.block _ (by have := HZ.out; omega)).trans HR.out)
    have HBw := Lib.hid (HB.out.trans (HBc.out.mono HB.out.size))
    have HPc := Lib.hid (strsB HP HBc.out)
    have d0 := (HBc.out.cell (p := ⟨bw, ow, none⟩) hwlt).trans d0
    have d2 := (HBw.out.cell (p := ⟨bw, ow + 2, none⟩) hbw).trans c2
    have d3 := (HBw.out.cell (p := ⟨bw, ow + 3, none⟩) hbw).trans c3
    have f0 := frozen_of_row _ _ 0 _ _ HX0.out
    have y0 := cellOf HX0.out 0 _ rfl
    have f2 := frozen_of_row _ _ 2 _ _ HX0.out
    have y2 := cellOf HX0.out 2 _ rfl
    have a0 := cellOf HAc.out 0 _ rfl
    have a1 := cellOf HAc.out 1 _ rfl
    have a2 := cellOf HAc.out 2 _ rfl
    have r0 := cellOf HRc.out 0 _ rfl
    have r1 := cellOf HRc.out 1 _ rfl
    have r2 := cellOf HRc.out 2 _ rfl
    have g0 := frozen_of_row _ _ 0 _ _ HRc.out
    have g1 := frozen_of_row _ _ 1 _ _ HRc.out
    have g2 := frozen_of_row _ _ 2 _ _ HRc.out
    have hXlt : W.heap.size < wc.heap.size := lt_of_block HX0.out
    have hbx1 : W.heap.size ≠ w.heap.size := by omega
    have hbx2 : W.heap.size ≠ w.heap.size + 1 := by omega
    clear c0 c1 c2 c3 HA HR HP HB HZ
    generalize W.heap.size = bx at *
    clear a0 a1 a2 r0 r1 r2 g0 g1 g2 f2 y2 HPc
    go_upto_region 24 with fail
    have HX1 : Hid ((wc.setCell ⟨bx, 0, none⟩ (.int .i64 2)).heap[bx]? = some (.cells #[.int .i64 2, .int .i64 (plF x1.data.toList P 0), .int .i64 0, .int .i64 0, .int .i64 0] 67 (0, 0))) := heap_setCell_same wc bx 0 _ _ (.int .i64 2) HX0.out
    have HA1 := Lib.hid ((heap_setCell_other wc ⟨bx, 0, none⟩ w.heap.size (.int .i64 2) (by simp; omega)).trans HAc.out)
    have HR1 := Lib.hid ((heap_setCell_other wc ⟨bx, 0, none⟩ (w.heap.size + 1) (.int .i64 2) (by simp; omega)).trans HRc.out)
    have HB1 := Lib.hid (HBw.out.setCell (p := ⟨bx, 0, none⟩) (by simp; omega) (.int .i64 2))
    have q2 := setO wc ⟨bx, 0, none⟩ (.int .i64 2) (b := bw) (o := ow + 2) (by simp; omega) d2
    have q3 := setO wc ⟨bx, 0, none⟩ (.int .i64 2) (b := bw) (o := ow + 3) (by simp; omega) d3
    clear HAc HRc HBw HX0 d0 d2 d3 f0 y0 hbw t_point t_spot t_contour t_lake t_slope
    generalize wc.setCell ⟨bx, 0, none⟩ (.int .i64 2) = w1 at *
    go_still_tail 9, (by kernel_rfl)
    still_call ((signed_any x2 _ (by omega)).mono (fun _ _ h => ⟨h.1, h.2.symm⟩))
    repeat still_step
    still_call ((signed_any x3 _ (by omega)).mono (fun _ _ h => ⟨h.1, h.2.symm⟩))
    repeat still_step
    refine wpStill_nil ?_
    have HX2 : Hid (w1.drew.heap[bx]? = _) := HX1.out
    have HA2 : Hid (w1.drew.heap[w.heap.size]? = _) := HA1.out
    have HR2 : Hid (w1.drew.heap[w.heap.size + 1]? = _) := HR1.out
    have HB2 : Hid (Below w.heap.size w w1.drew) := HB1.out.drew
    clear HX1 HA1 HR1 HB1 q2 q3
    change wpList _ _ _ _ _ w1.drew
    generalize w1.drew = w2 at *
    have f3 := frozen_of_row _ _ 3 _ _ HX2.out
    have f4 := frozen_of_row _ _ 4 _ _ HX2.out
    have y3 := cellOf HX2.out 3 _ rfl
    have y4 := cellOf HX2.out 4 _ rfl
    go_upto_region 25 with fail
    have HX3 : Hid (((w2.setCell ⟨bx, 3, none⟩ (.int .i64 (sigF x2.data.toList))).setCell ⟨bx, 4, none⟩ (.int .i64 (sigF x3.data.toList))).heap[bx]? = some (.cells #[.int .i64 2, .int .i64 (plF x1.data.toList P 0), .int .i64 0, .int .i64 (sigF x2.data.toList), .int .i64 (sigF x3.data.toList)] 67 (0, 0))) := heap_setCell_same _ bx 4 _ _ (.int .i64 (sigF x3.data.toList)) (heap_setCell_same w2 bx 3 _ _ (.int .i64 (sigF x2.data.toList)) HX2.out)
    have HA3 := Lib.hid ((heap_setCell_other _ ⟨bx, 4, none⟩ w.heap.size (.int .i64 (sigF x3.data.toList)) (by simp; omega)).trans ((heap_setCell_other w2 ⟨bx, 3, none⟩ w.heap.size (.int .i64 (sigF x2.data.toList)) (by simp; omega)).trans HA2.out))
    have HR3 := Lib.hid ((heap_setCell_other _ ⟨bx, 4, none⟩ (w.heap.size + 1) (.int .i64 (sigF x3.data.toList)) (by simp; omega)).trans ((heap_setCell_other w2 ⟨bx, 3, none⟩ (w.heap.size + 1) (.int .i64 (sigF x2.data.toList)) (by simp; omega)).trans HR2.out))
    have HB3 := Lib.hid ((HB2.out.setCell (p := ⟨bx, 3, none⟩) (by simp; omega) (.int .i64 (sigF x2.data.toList))).setCell (p := ⟨bx, 4, none⟩) (by simp; omega) (.int .i64 (sigF x3.data.toList)))
    clear HX2 HA2 HR2 HB2 f3 f4 y3 y4
    generalize (w2.setCell ⟨bx, 3, none⟩ (.int .i64 (sigF x2.data.toList))).setCell ⟨bx, 4, none⟩ (.int .i64 (sigF x3.data.toList)) = w3 at *
    generalize sigF x2.data.toList = LO at *
    generalize sigF x3.data.toList = HI at *
    generalize plF x1.data.toList P 0 = PA at *
    have HN3 := Lib.hid ((HS.out.notes.below HB3.out).mono HB3.out.size)
    have hXlt := lt_of_block HX3.out
    have hAlt3 := lt_of_block HA3.out
    have hRlt3 := lt_of_block HR3.out
    go_cut [5] from 94 (fun v wr => v = .bool false ∧ RowMid w3.heap.size w iv (.slice pa P.length pc) (N ++ [⟨2, PA, 0, LO, HI⟩]) wr)
    case first =>
      have c2 := cellOf HA3.out 2 _ rfl
      have f2 := frozen_of_row _ _ 2 _ _ HA3.out
      have x0 := cellOf HX3.out 0 _ rfl
      have x1 := cellOf HX3.out 1 _ rfl
      have x2 := cellOf HX3.out 2 _ rfl
      have x3 := cellOf HX3.out 3 _ rfl
      have x4 := cellOf HX3.out 4 _ rfl
      go_region_law (first
        | (refine step_notes (o := ⟨some 97, _, _, _, _, _⟩) (by rfl) _ _ (by rfl) w3.heap.size (.slice (some ⟨_, 0, none⟩) 0 0) _ [] N (by rfl) (by rfl) (by first | exact made_at _ _ _ (by simp) (by simp) | exact (made_at _ _ _ (by simp) (by simp)).alloc _) (ntsB HN3 (by go_grown)) (by first | (simp; done) | (simp; omega)) (by simp; omega) ?_; intro v1 w1 ho1 hg1 hl1; have HB1 : Hid (Below w3.heap.size w3 w1) := Below.grown (by go_grown) hg1 (by first | (simp; done) | (simp; omega)) hl1; have HX1 := Lib.hid ((HB1.out.block _ hXlt).trans HX3.out); have y0 := cellOf HX1.out 0 _ rfl; have y1 := cellOf HX1.out 1 _ rfl; have y2 := cellOf HX1.out 2 _ rfl; have y3 := cellOf HX1.out 3 _ rfl; have y4 := cellOf HX1.out 4 _ rfl)
        | (refine step_notes (o := ⟨some 100, _, _, _, _, _⟩) (by rfl) _ _ (by rfl) w3.heap.size _ _ N [⟨2, PA, 0, LO, HI⟩] (by rfl) (by rfl) (by first | exact ho1 | exact ho1.alloc _) (by first | exact one_notes (heap_alloc_new _ _) | exact one_notes ((hg1.block _ (by first | (simp; done) | (simp; omega)) (by simp [Value.ownBlock])).trans (heap_alloc2_new _ _ _)) | exact one_notes ((hg1.block _ (by first | (simp; done) | (simp; omega)) (by simp [Value.ownBlock])).trans (heap_alloc2_old _ _ _))) (by have := HB1.out.size; first | (simp; done) | (simp; omega) | omega) (by simp; omega) ?_; intro v2 w4 ho2 hg2 hl2; obtain ⟨sa, sc, rfl⟩ := own_slice ho2; have HB4 : Hid (Below w3.heap.size w3 w4) := (by first | exact (HB1.out).grown hg2 HB1.out.size hl2 | exact (HB1.out.alloc HB1.out.size _).grown hg2 (by have := HB1.out.size; simp; omega) hl2); have HA4 := Lib.hid ((HB4.out.block _ hAlt3).trans HA3.out); have c22 := cellOf HA4.out 2 _ rfl; have f22 := frozen_of_row _ _ 2 _ _ HA4.out))
      all_goals
        have hl : (N ++ [(⟨2, PA, 0, LO, HI⟩ : Note)]).length = N.length + 1 := by simp
        have HM : RowMid w3.heap.size w iv (.slice pa P.length pc) (N ++ [⟨2, PA, 0, LO, HI⟩]) (w4.setCell ⟨w.heap.size, 2, none⟩ (.slice sa (N ++ [(⟨2, PA, 0, LO, HI⟩ : Note)]).length sc)) := by
          refine ⟨sa, sc, heap_setCell_same w4 w.heap.size 2 _ _ _ HA4.out, own_other ho2 ⟨w.heap.size, 2, none⟩ hAlt3 _, (heap_setCell_other w4 ⟨w.heap.size, 2, none⟩ (w.heap.size + 1) _ (by simp)).trans ((HB4.out.block _ hRlt3).trans HR3.out), ?_⟩
          exact (HB3.out.trans (HB4.out.mono HB3.out.size)).setCell (p := ⟨w.heap.size, 2, none⟩) (Nat.le_refl _) _
        have HM' := Lib.hid (show RowMid w3.heap.size w iv (.slice pa P.length pc) (N ++ [⟨2, PA, 0, LO, HI⟩]) (w4.setCell ⟨w.heap.size, 2, none⟩ (.slice sa (N.length + 1) sc)) from hl ▸ HM)
        clear HM ho1 hg1 hl1 ho2 hg2 hl2 y0 y1 y2 y3 y4 x0 x1 x2 x3 x4 c2 f2 c22 f22 HA4 HX1
        go_wp2_with fail
        go_meet
        case rel => exact ⟨rfl, HM'.out⟩
    case rest =>
      obtain ⟨rfl, sa, sc, hA4, hO4, hR4, hB4⟩ := hcut
      have HA4 := Lib.hid hA4
      have HR4 := Lib.hid hR4
      have HO4 := Lib.hid hO4
      have HB4 := Lib.hid hB4
      have a0 := cellOf hA4 0 _ rfl
      have a1 := cellOf hA4 1 _ rfl
      have a2 := cellOf hA4 2 _ rfl
      have r0 := cellOf hR4 0 _ rfl
      have r1 := cellOf hR4 1 _ rfl
      have r2 := cellOf hR4 2 _ rfl
      have g0 := frozen_of_row _ _ 0 _ _ hR4
      have g1 := frozen_of_row _ _ 1 _ _ hR4
      have g2 := frozen_of_row _ _ 2 _ _ hR4
      have hl : (N ++ [(⟨2, PA, 0, LO, HI⟩ : Note)]).length = N.length + 1 := by simp
      have HL := Lib.hid hl
      generalize (N ++ [(⟨2, PA, 0, LO, HI⟩ : Note)]).length = nn at *
      clear hA4 hR4 hO4 hB4 HX3 HA3 HR3 HB3 HN3 hl
      go_wp2_with fail
      have hC := heap_setCell_same _ (w.heap.size + 1) 2 _ _ (.slice sa nn sc) (heap_setCell_same _ (w.heap.size + 1) 1 _ _ (.slice pa P.length pc) (heap_setCell_same _ (w.heap.size + 1) 0 _ _ (.int .i64 iv) HR4.out))
      have hO := own_other (own_other (own_other HO4.out ⟨w.heap.size + 1, 0, none⟩ hRlt3 (.int .i64 iv)) ⟨w.heap.size + 1, 1, none⟩ hRlt3 (.slice pa P.length pc)) ⟨w.heap.size + 1, 2, none⟩ hRlt3 (.slice sa nn sc)
      have hBB := ((HB4.out.setCell (p := ⟨w.heap.size + 1, 0, none⟩) (by simp) (.int .i64 iv)).setCell (p := ⟨w.heap.size + 1, 1, none⟩) (by simp) (.slice pa P.length pc)).setCell (p := ⟨w.heap.size + 1, 2, none⟩) (by simp) (.slice sa nn sc)
      refine bodyPost_ret (row_result rfl _ _ (w.heap.size + 1) _ _ _ _ rfl hC rfl) rfl ⟨_, _, rfl, ⟨(HS.out.pts.below hBB).mono hBB.size, ?_, HS.out.sz⟩, hcap, hBB⟩
      refine notesAt_own (base := w3.heap.size) (l := N ++ [⟨2, PA, 0, LO, HI⟩]) ?_ (by simp; omega)
      have e : (N ++ [(⟨2, PA, 0, LO, HI⟩ : Note)]).length = nn := by rw [HL.out]; simp
      rw [e]
      exact hO
end Go.Proofs.YtacmaddjpaebfaaGreatDoor
